/- What was asked of the program's functions: the landed code has it. -/
import Derived.Test.YtmegjjfgiibobaaDoorOh
namespace Go.Proofs.YtmegjjfgiibobaaDoor
open Go.RowKit Slices Go.Proofs.YtmegjjfgiibobaaDoor.Bit

theorem codeOk : CodeOk prL where
  number A A' n c n' c' b ns w h hn' h' _ _ hl' := number_any A A' n c n' c' b ns w h.2.1 h.1 h.2.2.1 h.2.2.2.2 hn' h' hl'
  bytes A A' n c n' c' b ps w h hn' h' _ _ hl' hp _ := bytes_any A A' n c n' c' b ps w h.2.1 h.1 h.2.2.1 h.2.2.2.2 hn' h' hl' hp
  text A n c b s w h hs := text_any A n c b s w h.2.1 h.1 h.2.2.1 h.2.2.2.2 hs
  new A n c b w h _ := new_any _ n c A b w h.2.1 h.1.symm h.2.2.1 (by have := h.2.2.2.2; omega)
  lt := prL_lt
  keep := prL_keep
  num_yes B U g l lo hi w h hf _ hk := num_yes B U g l lo hi w h hf hk
  num_no B U g l bad lo hi w h hf _ hk := num_no B U g l bad lo hi w h hf hk
  bytes_yes := bytes_yes
  bytes_no B U g l bad most w h hf _ hk := bytes_no B U g l bad most w h hf hk
  text_yes B U g l most w h hf _ hk := text_yes B U g l most w h hf hk
  text_no B U g l bad most w h hf _ hk := text_no B U g l bad most w h hf hk
  left := left_any
  ends B U g l bad w h := by
    obtain ⟨_, _, _, _, A, c, h2, _⟩ := h
    exact end_of _ _ w (ended_ps g l.length c A bad w h2)
  left_none := left_none
  end_none w := end_of _ _ w (ended_none w)
end Go.Proofs.YtmegjjfgiibobaaDoor
