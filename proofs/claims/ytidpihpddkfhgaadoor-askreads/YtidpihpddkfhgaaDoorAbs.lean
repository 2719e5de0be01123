/- Contract: two requests held against each other, field by field. -/
import Derived.Test.YtidpihpddkfhgaaDoorAb
namespace Go.Proofs.YtidpihpddkfhgaaDoor
open Go.RowKit Slices Go.Proofs.YtidpihpddkfhgaaDoor.Bit

set_option maxRecDepth 100000 in
set_option maxHeartbeats 100000000 in
theorem sameA_any (a b : AskV) (A1 A2 D1 D2 : Option Addr) (c1 c2 d1 d2 : Nat) (w : World) (h : AskIn w w.heap.size a A1 c1 A2 c2) (h' : AskIn w w.heap.size b D1 d1 D2 d2) (b1 : a.bytes.length ≤ 40000) (b2 : a.token.length ≤ 40000) (b3 : b.bytes.length ≤ 40000) (b4 : b.token.length ≤ 40000) :
    Calls Tryd.prog 15 #[.agg (askVals a A1 c1 A2 c2), .agg (askVals b D1 d1 D2 d2)] w fun e w' => e = .returned (.bool (sameV a b)) ∧ Below w.heap.size w w' := by
  obtain ⟨x0, x1, x2, x3, x4, x5, x6, x7, x8, x9, x10, s, l1, l2⟩ := a
  obtain ⟨y0, y1, y2, y3, y4, y5, y6, y7, y8, y9, y10, t, m1, m2⟩ := b
  simp only [askVals] at b1 b2 b3 b4 ⊢
  have H1 := Lib.hid h.hb
  have H2 := Lib.hid h.ht
  have H3 := Lib.hid h'.hb
  have H4 := Lib.hid h'.ht
  clear h h'
  simp only at H1 H2 H3 H4
  obtain ⟨R, hR⟩ : ∃ R, sameV ⟨x0, x1, x2, x3, x4, x5, x6, x7, x8, x9, x10, s, l1, l2⟩ ⟨y0, y1, y2, y3, y4, y5, y6, y7, y8, y9, y10, t, m1, m2⟩ = R := ⟨_, rfl⟩
  rw [hR]
  have HR := Lib.hid hR
  clear hR
  go_enter Tryd.func15, Tryd.ntmps15
  by_cases e0 : x0 = y0
  case neg =>
    have d : (x0 == y0) = false := beq_eq_false_iff_ne.2 e0
    have HQ : Hid (R = false) := by show R = false; rw [← HR.out]; exact sameV_no (fun e => by injection e; contradiction)
    clear e0
    go_wp2
    go_ret
    exact ⟨by rw [HQ.out]; rfl, below_box _ _ _⟩
  case pos =>
    subst e0
    by_cases e1 : x1 = y1
    case neg =>
      have d : (x1 == y1) = false := beq_eq_false_iff_ne.2 e1
      have HQ : Hid (R = false) := by show R = false; rw [← HR.out]; exact sameV_no (fun e => by injection e; contradiction)
      clear e1
      go_wp2
      go_ret
      exact ⟨by rw [HQ.out]; rfl, below_box _ _ _⟩
    case pos =>
      subst e1
      by_cases e2 : x2 = y2
      case neg =>
        have d : (x2 == y2) = false := beq_eq_false_iff_ne.2 e2
        have HQ : Hid (R = false) := by show R = false; rw [← HR.out]; exact sameV_no (fun e => by injection e; contradiction)
        clear e2
        go_wp2
        go_ret
        exact ⟨by rw [HQ.out]; rfl, below_box _ _ _⟩
      case pos =>
        subst e2
        by_cases e3 : x3 = y3
        case neg =>
          have d : (x3 == y3) = false := beq_eq_false_iff_ne.2 e3
          have HQ : Hid (R = false) := by show R = false; rw [← HR.out]; exact sameV_no (fun e => by injection e; contradiction)
          clear e3
          go_wp2
          go_ret
          exact ⟨by rw [HQ.out]; rfl, below_box _ _ _⟩
        case pos =>
          subst e3
          by_cases e4 : x4 = y4
          case neg =>
            have d : (x4 == y4) = false := beq_eq_false_iff_ne.2 e4
            have HQ : Hid (R = false) := by show R = false; rw [← HR.out]; exact sameV_no (fun e => by injection e; contradiction)
            clear e4
            go_wp2
            go_ret
            exact ⟨by rw [HQ.out]; rfl, below_box _ _ _⟩
          case pos =>
            subst e4
            by_cases e5 : x5 = y5
            case neg =>
              have d : (x5 == y5) = false := beq_eq_false_iff_ne.2 e5
              have HQ : Hid (R = false) := by show R = false; rw [← HR.out]; exact sameV_no (fun e => by injection e; contradiction)
              clear e5
              go_wp2
              go_ret
              exact ⟨by rw [HQ.out]; rfl, below_box _ _ _⟩
            case pos =>
              subst e5
              by_cases e6 : x6 = y6
              case neg =>
                have d : (x6 == y6) = false := beq_eq_false_iff_ne.2 e6
                have HQ : Hid (R = false) := by show R = false; rw [← HR.out]; exact sameV_no (fun e => by injection e; contradiction)
                clear e6
                go_wp2
                go_ret
                exact ⟨by rw [HQ.out]; rfl, below_box _ _ _⟩
              case pos =>
                subst e6
                by_cases e7 : x7 = y7
                case neg =>
                  have d : (x7 == y7) = false := beq_eq_false_iff_ne.2 e7
                  have HQ : Hid (R = false) := by show R = false; rw [← HR.out]; exact sameV_no (fun e => by injection e; contradiction)
                  clear e7
                  go_wp2
                  go_ret
                  exact ⟨by rw [HQ.out]; rfl, below_box _ _ _⟩
                case pos =>
                  subst e7
                  by_cases e8 : x8 = y8
                  case neg =>
                    have d : (x8 == y8) = false := beq_eq_false_iff_ne.2 e8
                    have HQ : Hid (R = false) := by show R = false; rw [← HR.out]; exact sameV_no (fun e => by injection e; contradiction)
                    clear e8
                    go_wp2
                    go_ret
                    exact ⟨by rw [HQ.out]; rfl, below_box _ _ _⟩
                  case pos =>
                    subst e8
                    by_cases e9 : x9 = y9
                    case neg =>
                      have d : (x9 == y9) = false := beq_eq_false_iff_ne.2 e9
                      have HQ : Hid (R = false) := by show R = false; rw [← HR.out]; exact sameV_no (fun e => by injection e; contradiction)
                      clear e9
                      go_wp2
                      go_ret
                      exact ⟨by rw [HQ.out]; rfl, below_box _ _ _⟩
                    case pos =>
                      subst e9
                      by_cases e10 : x10 = y10
                      case neg =>
                        have d : (x10 == y10) = false := beq_eq_false_iff_ne.2 e10
                        have HQ : Hid (R = false) := by show R = false; rw [← HR.out]; exact sameV_no (fun e => by injection e; contradiction)
                        clear e10
                        go_wp2
                        go_ret
                        exact ⟨by rw [HQ.out]; rfl, below_box _ _ _⟩
                      case pos =>
                        subst e10
                        by_cases es : s = t
                        case neg =>
                          have d : (s.toList == t.toList) = false := str_ne es
                          have HQ : Hid (R = false) := by show R = false; rw [← HR.out]; exact sameV_no (fun e => by injection e; contradiction)
                          clear es
                          go_wp2
                          go_ret
                          exact ⟨by rw [HQ.out]; rfl, below_box _ _ _⟩
                        case pos =>
                          subst es
                          by_cases e1 : l1 = m1
                          case neg =>
                            have HQ : Hid (R = false) := by show R = false; rw [← HR.out]; exact sameV_no (fun e => by injection e; contradiction)
                            have HE := Lib.hid e1
                            clear e1
                            go_wp2_with fail
                            refine (sameB_ne _ _ _ _ _ _ l1 m1 _ HE.out rfl rfl b1 b3 (has_next H1.out (below_box _ _ _)) (has_next H3.out (below_box _ _ _))).mono ?_
                            rintro e w1 ⟨rfl, hb⟩
                            have HB := Lib.hid (below_next (below_box _ _ _) hb)
                            clear hb
                            go_wp2
                            go_ret
                            exact ⟨by rw [HQ.out]; rfl, HB.out⟩
                          case pos =>
                            subst e1
                            by_cases e2 : l2 = m2
                            case neg =>
                              have HQ : Hid (R = false) := by show R = false; rw [← HR.out]; exact sameV_no (fun e => by injection e; contradiction)
                              have HE := Lib.hid e2
                              clear e2
                              go_wp2_with fail
                              refine (sameB_eq _ _ _ _ _ _ l1 l1 _ rfl rfl rfl b1 (has_next H1.out (below_box _ _ _)) (has_next H3.out (below_box _ _ _))).mono ?_
                              rintro e w1 ⟨rfl, hb⟩
                              have HB := Lib.hid (below_next (below_box _ _ _) hb)
                              have k0 : w1.cell? ⟨w.heap.size, 13, none⟩ = some (.slice A2 l2.length c2) := cellB (by simp) hb
                              have k1 : w1.cell? ⟨w.heap.size + 1, 13, none⟩ = some (.slice D2 m2.length d2) := cellB (by simp) hb
                              clear hb
                              go_wp2_with fail
                              refine (sameB_ne _ _ _ _ _ _ l2 m2 _ HE.out rfl rfl b2 b4 (has_next H2.out HB.out) (has_next H4.out HB.out)).mono ?_
                              rintro e w2 ⟨rfl, hb⟩
                              have HB2 := Lib.hid (below_next HB.out hb)
                              clear hb
                              go_wp2
                              go_ret
                              exact ⟨by rw [HQ.out]; rfl, HB2.out⟩
                            case pos =>
                              subst e2
                              have HQ : Hid (R = true) := by show R = true; rw [← HR.out]; exact sameV_self _
                              go_wp2_with fail
                              refine (sameB_eq _ _ _ _ _ _ l1 l1 _ rfl rfl rfl b1 (has_next H1.out (below_box _ _ _)) (has_next H3.out (below_box _ _ _))).mono ?_
                              rintro e w1 ⟨rfl, hb⟩
                              have HB := Lib.hid (below_next (below_box _ _ _) hb)
                              have k0 : w1.cell? ⟨w.heap.size, 13, none⟩ = some (.slice A2 l2.length c2) := cellB (by simp) hb
                              have k1 : w1.cell? ⟨w.heap.size + 1, 13, none⟩ = some (.slice D2 l2.length d2) := cellB (by simp) hb
                              clear hb
                              go_wp2_with fail
                              refine (sameB_eq _ _ _ _ _ _ l2 l2 _ rfl rfl rfl b2 (has_next H2.out HB.out) (has_next H4.out HB.out)).mono ?_
                              rintro e w2 ⟨rfl, hb⟩
                              have HB2 := Lib.hid (below_next HB.out hb)
                              clear hb
                              go_wp2
                              go_ret
                              exact ⟨by rw [HQ.out]; rfl, HB2.out⟩
end Go.Proofs.YtidpihpddkfhgaaDoor
