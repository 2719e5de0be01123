/-
  DERIVED. GIVEN WITH THE SEED: THE CARDS: each row of YtjpmglnhnfnmnaaDoorRows.lean that lists a variable, with what it lists TIED to the program's text (the seventh form; the later family's looks); each row that meets fmt, with fmt's text TOLD by the authors' own Lean function (tested against real Go, not proved from fmt's source: count such statements apart). THE CARD IS WHAT COUNTS. Prove the row's statement (the work); the ties are given (YtjpmglnhnfnmnaaDoorTie.lean); close each card by the builder's one call (the guide's Derived/Test/ToyasCard.lean, 'card_holds'). Laid BY PROGRAM, IN A SANDBOX (cutbox-door.mjs). By AI agents, Wed Nov 11 2026. No macro, syntax, notation, axiom, sorry.
-/
import Derived.Test.YtjpmglnhnfnmnaaDoorRows
import GoSem.ClaimSeven
namespace Go.Proofs.YtjpmglnhnfnmnaaDoor
namespace Rows

/-- THE TIED CARD OF 'chatelainelaw16.TenantsTell'. -/
def tenantsTellCard : Claim7 := { stood := { row := tenantsTellRow, standIns := [], harness := (true, "7ea76418fff75ebf69938dd375c9d6a61ae76f881fedd552794bb940c57f2be7"), looks := true }, kinds := [], alts := [], laidByText := true, laidKinds := [.handle], laidTests := true, laidLooks := .later }
def TenantsTellCardSaid : Prop := Claim7.holds Tryd.pinned (.plain (OpenSpec.ofChange tenantsTellSpec)) tenantsTellCard

/-- THE TIED CARD OF 'chatelainelaw16.TenantsGrow'. -/
def tenantsGrowCard : Claim7 := { stood := { row := tenantsGrowRow, standIns := [], harness := (true, "7ea76418fff75ebf69938dd375c9d6a61ae76f881fedd552794bb940c57f2be7"), looks := true }, kinds := [], alts := [], laidByText := true, laidKinds := [.handle], laidTests := true, laidLooks := .later }
def TenantsGrowCardSaid : Prop := Claim7.holds Tryd.pinned (.plain (OpenSpec.ofChange tenantsGrowSpec)) tenantsGrowCard

/-- THE TIED CARD OF 'chatelainelaw16.TenantsDeep'. -/
def tenantsDeepCard : Claim7 := { stood := { row := tenantsDeepRow, standIns := [], harness := (true, "7ea76418fff75ebf69938dd375c9d6a61ae76f881fedd552794bb940c57f2be7"), looks := true }, kinds := [], alts := [], laidByText := true, laidKinds := [.handle], laidTests := true, laidLooks := .later }
def TenantsDeepCardSaid : Prop := Claim7.holds Tryd.pinned (.plain (OpenSpec.ofChange tenantsDeepSpec)) tenantsDeepCard

/-- THE SECOND FORM's CARD OF 'chatelainelaw16.TenantsTell'. -/
def tenantsTellUptoCard : Claim7 := { stood := { row := tenantsTellUptoRow, standIns := [], harness := (true, "7ea76418fff75ebf69938dd375c9d6a61ae76f881fedd552794bb940c57f2be7"), looks := true }, kinds := [], alts := [], laidByText := true, laidKinds := [.handle], laidTests := true, laidLooks := .later }
def TenantsTellUptoCardSaid : Prop := Claim7.holds Tryd.pinned (.plain (OpenSpec.upto tenantsTellSpec)) tenantsTellUptoCard

/-- THE SECOND FORM's CARD OF 'chatelainelaw16.TenantsGrow'. -/
def tenantsGrowUptoCard : Claim7 := { stood := { row := tenantsGrowUptoRow, standIns := [], harness := (true, "7ea76418fff75ebf69938dd375c9d6a61ae76f881fedd552794bb940c57f2be7"), looks := true }, kinds := [], alts := [], laidByText := true, laidKinds := [.handle], laidTests := true, laidLooks := .later }
def TenantsGrowUptoCardSaid : Prop := Claim7.holds Tryd.pinned (.plain (OpenSpec.upto tenantsGrowSpec)) tenantsGrowUptoCard

/-- THE SECOND FORM's CARD OF 'chatelainelaw16.TenantsDeep'. -/
def tenantsDeepUptoCard : Claim7 := { stood := { row := tenantsDeepUptoRow, standIns := [], harness := (true, "7ea76418fff75ebf69938dd375c9d6a61ae76f881fedd552794bb940c57f2be7"), looks := true }, kinds := [], alts := [], laidByText := true, laidKinds := [.handle], laidTests := true, laidLooks := .later }
def TenantsDeepUptoCardSaid : Prop := Claim7.holds Tryd.pinned (.plain (OpenSpec.upto tenantsDeepSpec)) tenantsDeepUptoCard
end Rows
end Go.Proofs.YtjpmglnhnfnmnaaDoor
