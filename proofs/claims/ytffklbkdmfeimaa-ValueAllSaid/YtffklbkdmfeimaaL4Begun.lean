/-
  The beginning of each statement on values: two values are what they are.
  There are no conditions.
-/
import Derived.Test.YtffklbkdmfeimaaVaIs
namespace Go.Proofs.Ytffklbkdmfeimaa
open Go.RowKit
set_option maxRecDepth 100000

set_option maxHeartbeats 400000 in
theorem begun4_any (w : World) : Calls Try.prog 10 #[] w (Bl true w) := by
  have e1 : ("a".toUTF8 : ByteArray) = ⟨#[97]⟩ := by decide
  have fs := Try.raw_s
  go_enter Try.func10, Try.ntmps10
  go_wp2_with fail
  refine (vof_is _ ⟨1, 5, ⟨#[]⟩⟩ (.num 5) (.iface 51 (.int .i64 5)) 0 _ rfl (by decide) (by decide) rfl (by decide)).mono ?_
  rintro e w1 ⟨rfl, h1⟩
  go_wp2_with fail
  refine (vof_is _ ⟨2, 0, ⟨#[97]⟩⟩ (.txt ⟨#[97]⟩) (.iface 52 (.string ⟨#[97]⟩)) 0 _ rfl (by decide) (by decide) rfl (by decide)).mono ?_
  rintro e w2 ⟨rfl, h2⟩
  have v2 : w2.cell? ⟨w1.heap.size, 0, none⟩ = some (.iface 51 (.int .i64 5)) := (h2.cell (p := ⟨w1.heap.size, 0, none⟩) (by simp)).trans (by go_simp)
  have s2 : w1.heap.size < w2.heap.size := by have := h2.size; simp at this; omega
  have h2 : Below w.heap.size w w2 := (h1.alloc h1.size _).trans (h2.mono (by have := h1.size; simp; omega))
  clear h1
  have ht := h2.size
  go_wp2_with fail
  refine (vasInt_is _ (.num 5) 5 true _ rfl rfl rfl).mono ?_
  rintro e w3 ⟨rfl, h3⟩
  have v3 : w3.cell? ⟨w1.heap.size, 0, none⟩ = some (.iface 51 (.int .i64 5)) := (h3.cell (p := ⟨w1.heap.size, 0, none⟩) (by simp; omega)).trans (by go_simp)
  have x3 : w3.cell? ⟨w2.heap.size, 0, none⟩ = some (.iface 52 (.string ⟨#[97]⟩)) := (h3.cell (p := ⟨w2.heap.size, 0, none⟩) (by simp)).trans (by go_simp)
  have s3 : w2.heap.size < w3.heap.size := by have := h3.size; simp at this; omega
  have h3 : Below w.heap.size w w3 := (h2.alloc h2.size _).trans (h3.mono (by simp; omega))
  clear h2 v2
  have ht := h3.size
  go_wp2_with fail
  refine (vasInt_is _ (.txt ⟨#[97]⟩) 0 false _ rfl rfl rfl).mono ?_
  rintro e w4 ⟨rfl, h4⟩
  have v4 := (h4.cell (p := ⟨w1.heap.size, 0, none⟩) (by simp; omega)).trans v3
  have x4 := (h4.cell (p := ⟨w2.heap.size, 0, none⟩) (by simp; omega)).trans x3
  have s4 := h4.size
  have h4 : Below w.heap.size w w4 := h3.trans (h4.mono h3.size)
  clear h3 v3 x3
  have ht := h4.size
  go_wp2_with fail
  refine (vmust_is _ 5 _ rfl).mono ?_
  rintro e w5 ⟨rfl, h5⟩
  have v5 := (h5.cell (p := ⟨w1.heap.size, 0, none⟩) (by simp; omega)).trans v4
  have x5 := (h5.cell (p := ⟨w2.heap.size, 0, none⟩) (by simp; omega)).trans x4
  have s5 := h5.size
  have h5 : Below w.heap.size w w5 := h4.trans (h5.mono h4.size)
  clear h4 v4 x4
  have ht := h5.size
  go_wp2_with fail
  refine (vraw_is _ (.txt ⟨#[97]⟩) 2 0 ⟨#[97]⟩ _ rfl rfl (by decide)).mono ?_
  rintro e w6 ⟨rfl, h6⟩
  have v6 := (h6.cell (p := ⟨w1.heap.size, 0, none⟩) (by simp; omega)).trans v5
  have x6 := (h6.cell (p := ⟨w2.heap.size, 0, none⟩) (by simp; omega)).trans x5
  have s6 := h6.size
  have h6 : Below w.heap.size w w6 := h5.trans (h6.mono h5.size)
  clear h5 v5 x5
  have ht := h6.size
  go_wp2_with fail
  refine (veq_is _ _ (.num 5) (.txt ⟨#[97]⟩) false _ rfl rfl rfl).mono ?_
  rintro e w7 ⟨rfl, h7⟩
  have h7 : Below w.heap.size w w7 := h6.trans (h7.mono h6.size)
  go_wp2
  go_ret
  exact ⟨rfl, h7⟩
end Go.Proofs.Ytffklbkdmfeimaa
