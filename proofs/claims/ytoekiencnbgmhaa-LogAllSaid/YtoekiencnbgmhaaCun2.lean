/-
  Contracts of the program's functions, of the reference's, and plain lemmas on what they answer (part 2 of 4).
  Each lemma names its conditions.
-/
import Derived.Test.YtoekiencnbgmhaaCun1
import Derived.Deep.AppendLies
import Derived.Great.Walk
import Derived.Shelf.Small.Wraps
import Derived.Shelf.LaysM
import Derived.Shelf.Strconv.Clone
import Derived.Shelf.Sort.Plain
import Derived.Shelf.Slices.Turned
import Derived.Ground.Names2Prog
import Derived.Shelf.Slices.Clone
import Derived.Shelf.Slices.SearchI
import Derived.Shelf.Slices.In.SortNone
import Derived.Shelf.Slices.Empties
import Derived.Test.YtoekiencnbgmhaaProg
import Derived.Deep.MidRow
import Derived.Deep.RegionHeld3
import Derived.Deep.Slices
import Derived.Lib.SliceRun
import Derived.Laws.OwnMore
import Derived.Lib.AppendZeros
/-
  Whole rows in blocks: what a block holds, and what of it stays where another block is turned.
  There are no conditions beyond those that each lemma names.
-/
set_option linter.unusedSimpArgs false
set_option linter.unusedVariables false
namespace Go.Proofs.Ytoekiencnbgmhaa
open Go.RowKit
set_option maxRecDepth 100000

/-- block g is a row of type t, and holds the cells cs -/
def Rt (w : World) (g : Nat) (t : TypeId) (cs : List Value) : Prop := w.heap[g]? = some (.cells cs.toArray t (0, 0))
theorem Rt.lt {w : World} {g : Nat} {t : TypeId} {cs : List Value} (h : Rt w g t cs) : g < w.heap.size := (Array.getElem?_eq_some_iff.1 h).1
theorem Rt.new (w : World) (t : TypeId) (cs : List Value) : Rt (w.alloc (.cells cs.toArray t)) w.heap.size t cs := heap_alloc_new _ _
theorem Rt.new_at (w : World) (g : Nat) (t : TypeId) (cs : List Value) (hg : w.heap.size = g) : Rt (w.alloc (.cells cs.toArray t)) g t cs := by rw [← hg]; exact Rt.new w t cs
theorem Rt.below {w w' : World} {g : Nat} {t : TypeId} {cs : List Value} (h : Rt w g t cs) (hb : Below w.heap.size w w') : Rt w' g t cs := (hb.block g h.lt).trans h
theorem Rt.under {w w' : World} {B g : Nat} {t : TypeId} {cs : List Value} (h : Rt w g t cs) (hb : Below B w w') (hg : g < B) : Rt w' g t cs := (hb.block g hg).trans h
theorem Rt.cell {w : World} {g j : Nat} {t : TypeId} {cs : List Value} {v : Value} (h : Rt w g t cs) (hj : cs[j]? = some v) : w.cell? ⟨g, j, none⟩ = some v := by
  rw [cell_of_row w g _ cs.toArray t (0, 0) h]
  simpa using hj
theorem Rt.frz {w : World} {g : Nat} {t : TypeId} {cs : List Value} (h : Rt w g t cs) (j : Nat) : w.frozen? ⟨g, j, none⟩ = false := frozen_of_row w g j cs.toArray t h
theorem Rt.set {w : World} {g : Nat} {t : TypeId} {cs : List Value} (h : Rt w g t cs) (j : Nat) (u : Value) : Rt (w.setCell ⟨g, j, none⟩ u) g t (cs.set j u) := by
  unfold Rt at *
  rw [heap_setCell_same w g j _ _ u h]
  simp
theorem Rt.other {w : World} {g g' : Nat} {t : TypeId} {cs : List Value} (h : Rt w g t cs) (j : Nat) (u : Value) (hne : g ≠ g') : Rt (w.setCell ⟨g', j, none⟩ u) g t cs := by
  unfold Rt at *
  exact (Below.heap_setCell w _ u g (fun e => hne e)).trans h
theorem grown_trans10 {a b c : World} {row : Option Nat} (h : a.grownBy b row) (k : b.grownBy c row) : a.grownBy c row :=
  ⟨k.os.trans h.os, k.tape.trans h.tape, k.output.trans h.output, Nat.le_trans h.size k.size, fun j hj hne => (k.block j (Nat.lt_of_lt_of_le hj h.size) hne).trans (h.block j hj hne)⟩
theorem Rt.grown {w w' : World} {g g' : Nat} {t : TypeId} {cs : List Value} (h : Rt w g t cs) (hb : w.grownBy w' (some g')) (hne : g ≠ g') : Rt w' g t cs := (hb.block g h.lt (by simpa using hne)).trans h
theorem byt_grown10 {w w' : World} {B g : Nat} {v : Value} {l : List UInt8} (h : Byt w B v l) (hg : w.grownBy w' (some g)) (hB : B ≤ g) (hw : g < w.heap.size) : Byt w' B v l := h.keep fun p hp => hg.cell_far p (by omega) (by simp; omega)
theorem below_grown10 {w w' : World} {B g : Nat} (hg : w.grownBy w' (some g)) (hB : B ≤ g) (hw : g < w.heap.size) : Below B w w' := (Below.refl B w).grown hg (by omega) (fun k e => by cases e; exact hB)
theorem add_lit_10 (g o j : Nat) : (some (⟨g, o, Option.none⟩ : Addr)).map (·.add j) = some ⟨g, o + j, Option.none⟩ := by
  show some (Addr.add ⟨g, o, Option.none⟩ j) = _
  unfold Addr.add; split
  · subst_vars; rfl
  · rfl
end Go.Proofs.Ytoekiencnbgmhaa
/-
  Contracts of the library's functions that the program calls, as the shelf gives them.
-/
namespace Go.Proofs
open Go.Shelf
def Try.lays215_ren : Go.Shelf.Ren := ⟨fun | 215 => 91 | n => n, fun | 3 => 3 | 4 => 4 | n => n, fun | n => n⟩
theorem Try.lays215 : Go.Proofs.Lays.n215 Try.prog Try.lays215_ren := {
  mixed := by kernel_rfl
  f215 := Try.func91.trans (congrArg some (by kernel_rfl))
  t3 := Try.underlying3
  a3 := Try.isAgg3
  z3 := Try.sizeOf3
  v3 := Try.zeroValue3
  t4 := Try.underlying4
  a4 := Try.isAgg4
  z4 := Try.sizeOf4
  v4 := Try.zeroValue4 }
open Go.RowKit in
theorem Try.cmp_isNaN_int (x : Int) (w : World) :
    Calls Try.prog 91 #[.int .i64 x] w fun e w' => e = .returned (.bool false) ∧ w' = w := Any.cmp_isNaN_int Try.lays215 x w
def Try.laysM316_ren : Go.Shelf.Ren := ⟨fun | 316 => 73 | n => n, fun | 9 => 9 | 3 => 3 | 4 => 4 | 37 => 109 | 0 => 0 | 127 => 110 | 5 => 5 | n => n, fun | n => n⟩
theorem Try.laysM316 : Go.Proofs.LaysM.n316 Try.prog Try.laysM316_ren := {
  mixed := by kernel_rfl
  f316 := Try.func73.trans (congrArg some (by kernel_rfl))
  t0 := Try.underlying0
  a0 := Try.isAgg0
  z0 := Try.sizeOf0
  v0 := Try.zeroValue0
  t3 := Try.underlying3
  a3 := Try.isAgg3
  z3 := Try.sizeOf3
  v3 := Try.zeroValue3
  t4 := Try.underlying4
  a4 := Try.isAgg4
  z4 := Try.sizeOf4
  v4 := Try.zeroValue4
  t9 := Try.underlying9
  a9 := Try.isAgg9
  z9 := Try.sizeOf9
  v9 := Try.zeroValue9
  t37 := Try.underlying109
  a37 := Try.isAgg109
  z37 := Try.sizeOf109
  v37 := Try.zeroValue109
  t127 := Try.underlying110
  a127 := Try.isAgg110
  z127 := Try.sizeOf110
  v127 := Try.zeroValue110
  t5 := Try.underlying5
  a5 := Try.isAgg5
  z5 := Try.sizeOf5
  v5 := Try.zeroValue5
  i0 := by kernel_rfl
  i3 := by kernel_rfl
  i4 := by kernel_rfl
  i5 := by kernel_rfl
  i9 := by kernel_rfl
  i37 := by kernel_rfl
  i127 := by kernel_rfl }
open Go.RowKit in
theorem Try.stringslite_Clone (s : ByteArray) (w : World) (hlim : s.size ≤ 281474976710656) :
    Calls Try.prog 73 #[.string s] w fun e w' => e = .returned (.string s) ∧ Below w.heap.size w w' := Any.stringslite_Clone Try.laysM316 s w hlim
def Try.lays189_ren : Go.Shelf.Ren := ⟨fun | 189 => 82 | 125 => 90 | 257 => 89 | 128 => 101 | 129 => 102 | 294 => 93 | 295 => 94 | 296 => 95 | 297 => 96 | 298 => 97 | 299 => 98 | 216 => 84 | 300 => 99 | 301 => 100 | 328 => 103 | 329 => 104 | 330 => 105 | 331 => 106 | 332 => 107 | 215 => 91 | 343 => 108 | n => n, fun | 28 => 50 | 3 => 3 | 46 => 108 | 0 => 0 | 51 => 125 | 53 => 127 | 4 => 4 | 183 => 119 | 182 => 118 | 131 => 101 | 5 => 5 | 9 => 9 | 218 => 128 | 222 => 132 | 228 => 134 | 229 => 135 | n => n, fun | n => n⟩
theorem Try.lays189 : Go.Proofs.Lays.n189 Try.prog Try.lays189_ren := {
  mixed := by kernel_rfl
  f125 := Try.func90.trans (congrArg some (by kernel_rfl))
  f128 := Try.func101.trans (congrArg some (by kernel_rfl))
  f129 := Try.func102.trans (congrArg some (by kernel_rfl))
  f189 := Try.func82.trans (congrArg some (by kernel_rfl))
  f215 := Try.func91.trans (congrArg some (by kernel_rfl))
  f216 := Try.func84.trans (congrArg some (by kernel_rfl))
  f257 := Try.func89.trans (congrArg some (by kernel_rfl))
  f294 := Try.func93.trans (congrArg some (by kernel_rfl))
  f295 := Try.func94.trans (congrArg some (by kernel_rfl))
  f296 := Try.func95.trans (congrArg some (by kernel_rfl))
  f297 := Try.func96.trans (congrArg some (by kernel_rfl))
  f298 := Try.func97.trans (congrArg some (by kernel_rfl))
  f299 := Try.func98.trans (congrArg some (by kernel_rfl))
  f300 := Try.func99.trans (congrArg some (by kernel_rfl))
  f301 := Try.func100.trans (congrArg some (by kernel_rfl))
  f328 := Try.func103.trans (congrArg some (by kernel_rfl))
  f329 := Try.func104.trans (congrArg some (by kernel_rfl))
  f330 := Try.func105.trans (congrArg some (by kernel_rfl))
  f331 := Try.func106.trans (congrArg some (by kernel_rfl))
  f332 := Try.func107.trans (congrArg some (by kernel_rfl))
  f343 := Try.func108.trans (congrArg some (by kernel_rfl))
  t0 := Try.underlying0
  a0 := Try.isAgg0
  z0 := Try.sizeOf0
  v0 := Try.zeroValue0
  t3 := Try.underlying3
  a3 := Try.isAgg3
  z3 := Try.sizeOf3
  v3 := Try.zeroValue3
  t4 := Try.underlying4
  a4 := Try.isAgg4
  z4 := Try.sizeOf4
  v4 := Try.zeroValue4
  t5 := Try.underlying5
  a5 := Try.isAgg5
  z5 := Try.sizeOf5
  v5 := Try.zeroValue5
  t9 := Try.underlying9
  a9 := Try.isAgg9
  z9 := Try.sizeOf9
  v9 := Try.zeroValue9
  t28 := Try.underlying50
  a28 := Try.isAgg50
  z28 := Try.sizeOf50
  v28 := Try.zeroValue50
  t46 := Try.underlying108
  a46 := Try.isAgg108
  z46 := Try.sizeOf108
  v46 := Try.zeroValue108
  t51 := Try.underlying125
  a51 := Try.isAgg125
  z51 := Try.sizeOf125
  v51 := Try.zeroValue125
  t53 := Try.underlying127
  a53 := Try.isAgg127
  z53 := Try.sizeOf127
  v53 := Try.zeroValue127
  t131 := Try.underlying101
  a131 := Try.isAgg101
  z131 := Try.sizeOf101
  v131 := Try.zeroValue101
  t182 := Try.underlying118
  a182 := Try.isAgg118
  z182 := Try.sizeOf118
  v182 := Try.zeroValue118
  t183 := Try.underlying119
  a183 := Try.isAgg119
  z183 := Try.sizeOf119
  v183 := Try.zeroValue119
  t218 := Try.underlying128
  a218 := Try.isAgg128
  z218 := Try.sizeOf128
  v218 := Try.zeroValue128
  t222 := Try.underlying132
  a222 := Try.isAgg132
  z222 := Try.sizeOf132
  v222 := Try.zeroValue132
  t228 := Try.underlying134
  a228 := Try.isAgg134
  z228 := Try.sizeOf134
  v228 := Try.zeroValue134
  t229 := Try.underlying135
  a229 := Try.isAgg135
  z229 := Try.sizeOf135
  v229 := Try.zeroValue135 }
open Go.Sort Go.RowKit in
theorem Try.slices_Sort_int (blk off cap : Nat) (zs : List Int) (w : World) (hH : Holds (Value.int .i64) w blk off zs.toArray) (hblk : blk < w.heap.size) (hsz : zs.length < 4611686018427387904) :
    Calls Try.prog 82 #[.slice (some ⟨blk, off, none⟩) zs.length cap] w fun e w' =>
      e = .returned (.tuple #[]) ∧ ∃ n os, w' = grow (putRow (Value.int .i64) (Sort.ahead w n) blk off (zs.mergeSort fun x y => decide (x ≤ y)).toArray) os := Any.slices_Sort_int Try.lays189 blk off cap zs w hH hblk hsz
def Try.lays108_ren : Go.Shelf.Ren := ⟨fun | 108 => 87 | n => n, fun | 28 => 50 | 3 => 3 | 0 => 0 | 4 => 4 | n => n, fun | n => n⟩
theorem Try.lays108 : Go.Proofs.Lays.n108 Try.prog Try.lays108_ren := {
  mixed := by kernel_rfl
  f108 := Try.func87.trans (congrArg some (by kernel_rfl))
  t0 := Try.underlying0
  a0 := Try.isAgg0
  z0 := Try.sizeOf0
  v0 := Try.zeroValue0
  t3 := Try.underlying3
  a3 := Try.isAgg3
  z3 := Try.sizeOf3
  v3 := Try.zeroValue3
  t4 := Try.underlying4
  a4 := Try.isAgg4
  z4 := Try.sizeOf4
  v4 := Try.zeroValue4
  t28 := Try.underlying50
  a28 := Try.isAgg50
  z28 := Try.sizeOf50
  v28 := Try.zeroValue50 }
open Go.Lib in
theorem Try.slices_Index_int (b off n c : Nat) (zs : List Int) (x : Int) (w : World) (hz : n ≤ zs.length) (hbig : n ≤ 9223372036854775807) (hc : ∀ j, j < zs.length → w.cell? ⟨b, off + j, none⟩ = some (.int .i64 (zs.getD j 0))) :
    Calls Try.prog 87 #[.slice (some ⟨b, off, none⟩) n c, .int .i64 x] w fun e w' => e = .returned (.int .i64 (Lib.idxOf (zs.take n) x)) ∧ w' = w := Any.slices_Index_int Try.lays108 b off n c zs x w hz hbig hc
open Go.Lib in
theorem Try.slices_Index_int_empty (a : Option Addr) (c : Nat) (x : Int) (w : World) :
    Calls Try.prog 87 #[.slice a 0 c, .int .i64 x] w fun e w' => e = .returned (.int .i64 (Lib.idxOf [] x)) ∧ w' = w := Any.slices_Index_int_empty Try.lays108 a c x w
def Try.lays107_ren : Go.Shelf.Ren := ⟨fun | 107 => 80 | 108 => 87 | n => n, fun | 28 => 50 | 3 => 3 | 4 => 4 | 0 => 0 | n => n, fun | n => n⟩
theorem Try.lays107 : Go.Proofs.Lays.n107 Try.prog Try.lays107_ren := {
  mixed := by kernel_rfl
  f107 := Try.func80.trans (congrArg some (by kernel_rfl))
  f108 := Try.func87.trans (congrArg some (by kernel_rfl))
  t0 := Try.underlying0
  a0 := Try.isAgg0
  z0 := Try.sizeOf0
  v0 := Try.zeroValue0
  t3 := Try.underlying3
  a3 := Try.isAgg3
  z3 := Try.sizeOf3
  v3 := Try.zeroValue3
  t4 := Try.underlying4
  a4 := Try.isAgg4
  z4 := Try.sizeOf4
  v4 := Try.zeroValue4
  t28 := Try.underlying50
  a28 := Try.isAgg50
  z28 := Try.sizeOf50
  v28 := Try.zeroValue50 }
open Go.Lib in
theorem Try.slices_Contains_int (b off n c : Nat) (zs : List Int) (x : Int) (w : World) (hz : n ≤ zs.length) (hbig : n ≤ 9223372036854775807) (hc : ∀ j, j < zs.length → w.cell? ⟨b, off + j, none⟩ = some (.int .i64 (zs.getD j 0))) :
    Calls Try.prog 80 #[.slice (some ⟨b, off, none⟩) n c, .int .i64 x] w fun e w' => e = .returned (.bool ((zs.take n).contains x)) ∧ w' = w := Any.slices_Contains_int Try.lays107 b off n c zs x w hz hbig hc
open Go.Lib in
theorem Try.slices_Contains_int_empty (a : Option Addr) (c : Nat) (x : Int) (w : World) :
    Calls Try.prog 80 #[.slice a 0 c, .int .i64 x] w fun e w' => e = .returned (.bool false) ∧ w' = w := Any.slices_Contains_int_empty Try.lays107 a c x w
def Try.laysNm215_ren : Go.Shelf.Ren := ⟨fun | 15 => 59 | n => n, fun | 22 => 50 | 3 => 3 | 4 => 4 | n => n, fun | n => n⟩
theorem Try.laysNm215 : Go.Proofs.Lays2.n15 Try.prog Try.laysNm215_ren := {
  mixed := by kernel_rfl
  f15 := Try.func59.trans (congrArg some (by kernel_rfl))
  t3 := Try.underlying3
  a3 := Try.isAgg3
  z3 := Try.sizeOf3
  v3 := Try.zeroValue3
  t4 := Try.underlying4
  a4 := Try.isAgg4
  z4 := Try.sizeOf4
  v4 := Try.zeroValue4
  t22 := Try.underlying50
  a22 := Try.isAgg50
  z22 := Try.sizeOf50
  v22 := Try.zeroValue50
  i3 := by kernel_rfl }
open Go.RowKit Go.Lib in
theorem Try.slices_Clone_int (b off n c : Nat) (zs : List Int) (w : World) (hz : n ≤ zs.length) (hbig : n * 8 ≤ 140737488355328) (hc : ∀ j, j < zs.length → w.cell? ⟨b, off + j, none⟩ = some (.int .i64 (zs.getD j 0))) :
    Calls Try.prog 59 #[.slice (some ⟨b, off, none⟩) n c] w fun e w' => ∃ v', e = .returned v' ∧ w'.ownsRow w.heap.size 3 1 v' n ((zs.take n).map (Value.int .i64)) ∧ v' ≠ .slice none 0 0 ∧ Below w.heap.size w w' := Any.slices_Clone_int Try.laysNm215 b off n c zs w hz hbig hc
open Go.RowKit Go.Lib in
theorem Try.slices_Clone_int_nil (n c : Nat) (w : World) :
    Calls Try.prog 59 #[.slice none n c] w fun e w' => e = .returned (.slice none 0 0) ∧ w' = w := Any.slices_Clone_int_nil Try.laysNm215 n c w
open Go.RowKit Go.Lib in
theorem Try.slices_Clone_int_zero (a : Addr) (c : Nat) (w : World) :
    Calls Try.prog 59 #[.slice (some a) 0 c] w fun e w' => ∃ v', e = .returned v' ∧ w'.ownsRow w.heap.size 3 1 v' 0 [] ∧ v' ≠ .slice none 0 0 ∧ Below w.heap.size w w' := Any.slices_Clone_int_zero Try.laysNm215 a c w
def Try.laysNm237_ren : Go.Shelf.Ren := ⟨fun | 37 => 91 | n => n, fun | 3 => 3 | 4 => 4 | n => n, fun | n => n⟩
theorem Try.laysNm237 : Go.Proofs.Lays2.n37 Try.prog Try.laysNm237_ren := {
  mixed := by kernel_rfl
  f37 := Try.func91.trans (congrArg some (by kernel_rfl))
  t3 := Try.underlying3
  a3 := Try.isAgg3
  z3 := Try.sizeOf3
  v3 := Try.zeroValue3
  t4 := Try.underlying4
  a4 := Try.isAgg4
  z4 := Try.sizeOf4
  v4 := Try.zeroValue4 }
open Go.RowKit Go.Lib in
theorem Try.cmp_isNaN_int2 (x : Int) (w : World) :
    Calls Try.prog 91 #[.int .i64 x] w fun e w' => e = .returned (.bool false) ∧ w' = w := Any.cmp_isNaN_int2 Try.laysNm237 x w
def Try.laysNm232_ren : Go.Shelf.Ren := ⟨fun | 32 => 85 | n => n, fun | 3 => 3 | 4 => 4 | n => n, fun | n => n⟩
theorem Try.laysNm232 : Go.Proofs.Lays2.n32 Try.prog Try.laysNm232_ren := {
  mixed := by kernel_rfl
  f32 := Try.func85.trans (congrArg some (by kernel_rfl))
  t3 := Try.underlying3
  a3 := Try.isAgg3
  z3 := Try.sizeOf3
  v3 := Try.zeroValue3
  t4 := Try.underlying4
  a4 := Try.isAgg4
  z4 := Try.sizeOf4
  v4 := Try.zeroValue4 }
open Go.RowKit Go.Lib in
theorem Try.slices_isNaN_int2 (x : Int) (w : World) :
    Calls Try.prog 85 #[.int .i64 x] w fun e w' => e = .returned (.bool false) ∧ w' = w := Any.slices_isNaN_int2 Try.laysNm232 x w
def Try.laysNm231_ren : Go.Shelf.Ren := ⟨fun | 31 => 84 | 37 => 91 | n => n, fun | 3 => 3 | 4 => 4 | n => n, fun | n => n⟩
theorem Try.laysNm231 : Go.Proofs.Lays2.n31 Try.prog Try.laysNm231_ren := {
  mixed := by kernel_rfl
  f31 := Try.func84.trans (congrArg some (by kernel_rfl))
  f37 := Try.func91.trans (congrArg some (by kernel_rfl))
  t3 := Try.underlying3
  a3 := Try.isAgg3
  z3 := Try.sizeOf3
  v3 := Try.zeroValue3
  t4 := Try.underlying4
  a4 := Try.isAgg4
  z4 := Try.sizeOf4
  v4 := Try.zeroValue4 }
open Go.RowKit Go.Lib in
theorem Try.cmp_Less_int2 (x y : Int) (w : World) :
    Calls Try.prog 84 #[.int .i64 x, .int .i64 y] w fun e w' => e = .returned (.bool (decide (x < y))) ∧ w' = w := Any.cmp_Less_int2 Try.laysNm231 x y w
def Try.laysNm225_ren : Go.Shelf.Ren := ⟨fun | 25 => 72 | 31 => 84 | 32 => 85 | 37 => 91 | n => n, fun | 22 => 50 | 3 => 3 | 4 => 4 | 40 => 108 | 0 => 0 | n => n, fun | n => n⟩
theorem Try.laysNm225 : Go.Proofs.Lays2.n25 Try.prog Try.laysNm225_ren := {
  mixed := by kernel_rfl
  f25 := Try.func72.trans (congrArg some (by kernel_rfl))
  f31 := Try.func84.trans (congrArg some (by kernel_rfl))
  f32 := Try.func85.trans (congrArg some (by kernel_rfl))
  f37 := Try.func91.trans (congrArg some (by kernel_rfl))
  t0 := Try.underlying0
  a0 := Try.isAgg0
  z0 := Try.sizeOf0
  v0 := Try.zeroValue0
  t3 := Try.underlying3
  a3 := Try.isAgg3
  z3 := Try.sizeOf3
  v3 := Try.zeroValue3
  t4 := Try.underlying4
  a4 := Try.isAgg4
  z4 := Try.sizeOf4
  v4 := Try.zeroValue4
  t22 := Try.underlying50
  a22 := Try.isAgg50
  z22 := Try.sizeOf50
  v22 := Try.zeroValue50
  t40 := Try.underlying108
  a40 := Try.isAgg108
  z40 := Try.sizeOf108
  v40 := Try.zeroValue108 }
open Go.RowKit Go.Lib in
theorem Try.slices_BinarySearch_int (b off n c : Nat) (zs : List Int) (x : Int) (w : World) (hz : n ≤ zs.length) (hbig : n < 4611686018427387904) (hc : ∀ j, j < zs.length → w.cell? ⟨b, off + j, none⟩ = some (.int .i64 (zs.getD j 0))) (hs : (zs.take n).Pairwise (· ≤ ·)) :
    Calls Try.prog 72 #[.slice (some ⟨b, off, none⟩) n c, .int .i64 x] w fun e w' => e = .returned (.tuple #[.int .i64 ((zs.take n).countP (· < x) : Nat), .bool ((zs.take n).contains x)]) ∧ ∃ q, w' = w.drewN q := Any.slices_BinarySearch_int Try.laysNm225 b off n c zs x w hz hbig hc hs
open Go.RowKit Go.Sort in
theorem Try.slices_Sort_int_none (p : Option Addr) (cap : Nat) (w : World) :
    Calls Try.prog 82 #[.slice p 0 cap] w fun e w' => e = .returned (.tuple #[]) ∧ w' = w := Any.slices_Sort_int_none Try.lays189 p cap w
open Go.RowKit Go.Lib in
theorem Try.slices_BinarySearch_int_empty (a : Option Addr) (c : Nat) (x : Int) (w : World) :
    Calls Try.prog 72 #[.slice a 0 c, .int .i64 x] w fun e w' => e = .returned (.tuple #[.int .i64 0, .bool false]) ∧ w' = w := Any.slices_BinarySearch_int_empty Try.laysNm225 a c x w
end Go.Proofs
/-
  bytes.Clone at any bytes; bytes turned into a text; a slice's beginning.
  The bytes are no more than 2^47.
-/
set_option linter.unusedSimpArgs false
set_option linter.unusedVariables false
namespace Go.Proofs.Ytoekiencnbgmhaa
open Go.RowKit
set_option maxRecDepth 100000

theorem conv9 {w : World} {B : Nat} {v : Value} {l : List UInt8} {S : ByteArray} (h : Byt w B v l) (hS : (⟨l.toArray⟩ : ByteArray) = S) : (convert 109 9 v).run Try.prog w = .ok (.string S) w := by
  obtain ⟨A, c, rfl, _, hcell⟩ := id h
  subst hS
  have e : strOfNums (l.map fun x => (x.toNat : Int)) = ⟨l.toArray⟩ := by
    unfold strOfNums
    rw [List.map_map]
    congr 2
    conv => rhs; rw [← List.map_id l]
    apply List.map_congr_left; intro x _; simp
  rcases Nat.eq_zero_or_pos l.length with h0 | h0
  · have hl : l = [] := List.eq_nil_of_length_eq_zero h0
    subst hl
    simp [convert, run_underlying Try.underlying109, run_underlying Try.underlying5, run_underlying Try.underlying9, Result.andThen]
    cases A <;> simp [Conv.bytesToString, loadCells] <;> rfl
  · obtain ⟨g, o, rfl, _, hc⟩ := hcell h0
    rw [← e]
    refine run_convert_bytes_arg w 109 5 Try.underlying109 Try.underlying5 g o l.length c _ (by simp) (fun i hi => ?_) 9 Try.underlying9
    rw [hc i hi]; simp [hi, List.getD]
theorem byt_take9 {w : World} {B : Nat} {A : Option Addr} {c j : Nat} {l : List UInt8} (h : Byt w B (.slice A l.length c) l) (hj : j ≤ l.length) : Byt w B (.slice A j c) (l.take j) := by
  obtain ⟨A', c', hv, hc, hcell⟩ := h
  injection hv with e1 _ e3
  subst e1; subst e3
  refine ⟨A, c, by rw [List.length_take, Nat.min_eq_left hj], by rw [List.length_take]; omega, fun h0 => ?_⟩
  rw [List.length_take] at h0
  obtain ⟨g, o, hA, hg, hk⟩ := hcell (by omega)
  refine ⟨g, o, hA, hg, fun k h1 => ?_⟩
  rw [List.length_take] at h1
  rw [hk k (by omega), List.getElem_take]
theorem byt_cap9 {w : World} {B : Nat} {A : Option Addr} {m c : Nat} {l : List UInt8} (h : Byt w B (.slice A m c) l) : m = l.length ∧ m ≤ c := by
  obtain ⟨A', c', hv, hc, _⟩ := h
  injection hv with _ e2 e3
  omega
end Go.Proofs.Ytoekiencnbgmhaa
/-
  The program's disk in memory: a box with a map and a count; the map holds a file a name; the files' bytes lie in rows of one's own. What a step on it leaves alone.
  There are no conditions beyond those that each lemma names.
-/
set_option linter.unusedSimpArgs false
set_option linter.unusedVariables false
namespace Go.Proofs.Ytoekiencnbgmhaa
open Go.RowKit
set_option maxRecDepth 100000

/-- all that was there stands, but for blocks of which S holds -/
structure Off (S : Nat → Prop) (w w' : World) : Prop where
  os : w'.os = w.os
  tape : w'.tape = w.tape
  output : w'.output = w.output
  size : w.heap.size ≤ w'.heap.size
  block : ∀ k, k < w.heap.size → ¬ S k → w'.heap[k]? = w.heap[k]?
theorem Off.refl (S : Nat → Prop) (w : World) : Off S w w := ⟨rfl, rfl, rfl, Nat.le_refl _, fun _ _ _ => rfl⟩
theorem Off.of_below {S : Nat → Prop} {w w' : World} (h : Below w.heap.size w w') : Off S w w' := ⟨h.os, h.tape, h.output, h.size, fun k hk _ => h.block k hk⟩
theorem Off.trans {S T : Nat → Prop} {w w1 w2 : World} (h : Off S w w1) (h2 : Off T w1 w2) (hT : ∀ k, T k → S k ∨ w.heap.size ≤ k) : Off S w w2 :=
  ⟨h2.os.trans h.os, h2.tape.trans h.tape, h2.output.trans h.output, Nat.le_trans h.size h2.size, fun k hk hS => (h2.block k (Nat.lt_of_lt_of_le hk h.size) (fun ht => by
    rcases hT k ht with h3 | h3
    · exact hS h3
    · omega)).trans (h.block k hk hS)⟩
theorem Off.then_ {S : Nat → Prop} {w w1 w2 : World} (h : Off S w w1) (h2 : Below w1.heap.size w1 w2) : Off S w w2 := h.trans (Off.of_below (S := S) h2) fun _ h => .inl h
theorem Off.mono {S T : Nat → Prop} {w w' : World} (h : Off S w w') (hT : ∀ k, S k → T k ∨ w.heap.size ≤ k) : Off T w w' := ⟨h.os, h.tape, h.output, h.size, fun k hk ht => h.block k hk fun hs => by
    rcases hT k hs with h3 | h3
    · exact ht h3
    · omega⟩
theorem Off.alloc {S : Nat → Prop} {w w1 : World} (h : Off S w w1) (o : Obj) : Off S w (w1.alloc o) := h.then_ (below_new _ _)
theorem Off.drew {S : Nat → Prop} {w w1 : World} (h : Off S w w1) : Off S w w1.drew := ⟨h.os, h.tape, h.output, h.size, h.block⟩
theorem Off.set {S : Nat → Prop} {w w1 : World} {g j : Nat} {u : Value} (h : Off S w w1) (hg : S g ∨ w.heap.size ≤ g) : Off S w (w1.setCell ⟨g, j, none⟩ u) :=
  h.trans (T := fun k => k = g) ⟨rfl, rfl, rfl, Nat.le_of_eq (by simp [World.setCell]), fun k _ hk => Below.heap_setCell _ _ _ _ hk⟩ fun k hk => by subst hk; exact hg
theorem Off.grown {S : Nat → Prop} {w w1 w2 : World} {row : Option Nat} (h : Off S w w1) (h2 : w1.grownBy w2 row) (hr : ∀ k, row = some k → S k ∨ w.heap.size ≤ k) : Off S w w2 :=
  h.trans (T := fun k => row = some k) ⟨h2.os, h2.tape, h2.output, h2.size, fun k hk hne => h2.block k hk fun e => hne e.symm⟩ hr
theorem Off.below {S : Nat → Prop} {B : Nat} {w w' : World} (h : Off S w w') (hS : ∀ k, S k → B ≤ k) (hB : B ≤ w.heap.size) : Below B w w' :=
  ⟨h.os, h.tape, h.output, h.size, fun k hk => h.block k (Nat.lt_of_lt_of_le hk hB) fun hs => by have := hS k hs; omega⟩
theorem Off.cell {S : Nat → Prop} {w w' : World} {p : Addr} (h : Off S w w') (hp : p.block < w.heap.size) (hS : ¬ S p.block) : w'.cell? p = w.cell? p := World.cell?_of_block (w := w) (h.block p.block hp hS)
theorem Off.ownsRow {S : Nat → Prop} {w w' : World} {B e s n : Nat} {v : Value} {xs : List Value} (h : Off S w w') (hr : w.ownsRow B e s v n xs) (hS : ∀ k, v.ownBlock = some k → ¬ S k) : w'.ownsRow B e s v n xs := by
  have hlt := World.ownsRow.lt hr
  refine ⟨hr.1, ?_⟩
  rcases hr.2 with h2 | ⟨g, c, cur, hv, hB, hg, r⟩
  · exact .inl h2
  · subst hv
    exact .inr ⟨g, c, cur, rfl, hB, (h.block g (hlt g rfl).2 (hS g rfl)).trans hg, r⟩
theorem Off.map {S : Nat → Prop} {w w' : World} {P : Program} {k b n : Nat} {R : Value → Option (DataW Value × List MemPlace)} {D : DataW Value} (h : Off S w w') (ho : w.ownsMap P k R b n D) (hS : ¬ S b) : w'.ownsMap P k R b n D := by
  have hlt := ho.lt
  obtain ⟨es, clock, hb, r⟩ := ho
  exact ⟨es, clock, (h.block b hlt hS).trans hb, r⟩

/-- a row of bytes lies in a block of its type -/
theorem own_type {w : World} {B : Nat} {v : Value} {l : List UInt8} {g : Nat} (h : OwnB B v l w) (hg : v.ownBlock = some g) : ∃ cur, w.heap[g]? = some (.cells cur 5 (0, 0)) := by
  rcases h.2 with ⟨hv, _⟩ | ⟨g2, c2, cur, hv, _, hh, _⟩
  · rw [hv] at hg; cases hg
  · rw [hv] at hg
    have e3 : g2 = g := Option.some.inj (show some g2 = some g from hg)
    subst e3
    exact ⟨cur, hh⟩
/-- a block of cells that may be written -/
def Blk (w : World) (g : Nat) (cs : Array Value) (t : TypeId) : Prop := w.heap[g]? = some (.cells cs t (0, 0))
theorem Blk.new (w : World) (cs : Array Value) (t : TypeId) : Blk (w.alloc (.cells cs t)) w.heap.size cs t := heap_alloc_new _ _
theorem Blk.lt {w : World} {g : Nat} {cs : Array Value} {t : TypeId} (h : Blk w g cs t) : g < w.heap.size := (Array.getElem?_eq_some_iff.1 h).1
theorem Blk.cell {w : World} {g j : Nat} {cs : Array Value} {t : TypeId} {v : Value} (h : Blk w g cs t) (hj : cs[j]? = some v) : w.cell? ⟨g, j, none⟩ = some v := by rw [cell_of_row w g j _ _ _ h]; exact hj
theorem Blk.frz {w : World} {g : Nat} {cs : Array Value} {t : TypeId} (h : Blk w g cs t) (j : Nat) : w.frozen? ⟨g, j, none⟩ = false := frozen_of_row w g j _ _ h
theorem Blk.below {w w' : World} {g : Nat} {cs : Array Value} {t : TypeId} (h : Blk w g cs t) (hb : Below w.heap.size w w') : Blk w' g cs t := (hb.block g h.lt).trans h
theorem Blk.off {S : Nat → Prop} {w w' : World} {g : Nat} {cs : Array Value} {t : TypeId} (h : Blk w g cs t) (ho : Off S w w') (hS : ¬ S g) : Blk w' g cs t := (ho.block g h.lt hS).trans h
theorem Blk.set {w : World} {g j : Nat} {cs : Array Value} {t : TypeId} (h : Blk w g cs t) (v : Value) : Blk (w.setCell ⟨g, j, none⟩ v) g (cs.setIfInBounds j v) t := heap_setCell_same w g j _ _ _ h
theorem Blk.far {w : World} {g g2 j : Nat} {cs : Array Value} {t : TypeId} (h : Blk w g cs t) (hne : g ≠ g2) (v : Value) : Blk (w.setCell ⟨g2, j, none⟩ v) g cs t := (Below.heap_setCell w ⟨g2, j, none⟩ v g hne).trans h
/-- the map of a disk -/
def Map9 (w : World) (m : Option Nat) (ps : List (Fil × Value)) : Prop :=
  match m with
  | none => ps = []
  | some b => w.ownsMap Try.prog 9 RH b ps.length (DD ps)
theorem blk_ne_map {w : World} {g n : Nat} {cs : Array Value} {t k : TypeId} {D : DataW Value} {P : Program} {R : Value → Option (DataW Value × List MemPlace)} (h : Blk w g cs t) (ho : w.ownsMap P k R g n D) : False := by
  obtain ⟨es, clock, hb, _⟩ := ho
  unfold Blk at h
  rw [h] at hb; cases hb
theorem Map9.off {S : Nat → Prop} {w w' : World} {m : Option Nat} {ps : List (Fil × Value)} (h : Map9 w m ps) (ho : Off S w w') (hS : ∀ b, m = some b → ¬ S b) : Map9 w' m ps := by
  cases m with
  | none => exact h
  | some b => exact ho.map h (hS b rfl)
theorem Map9.below {w w' : World} {m : Option Nat} {ps : List (Fil × Value)} (h : Map9 w m ps) (hb : Below w.heap.size w w') : Map9 w' m ps := h.off (Off.of_below (S := fun _ => False) hb) fun _ _ h => h
theorem Try.lawStr9 : Maps.Keyed Try.prog 9 := Maps.string_keyed Try.underlying9
theorem key9 {n : ByteArray} (h : n.size ≤ maxLen) : keyOf Try.prog 9 (.string n) = some (.string n.data.toList) := WideMaps.keyOf_string_mk Try.underlying9 h
/-- what a file's cells hold -/
def fileV (p : Fil × Value) : Value := .agg #[p.2, .int .i64 ((p.1.fast : Nat) : Int), .bool p.1.there]
/-- what the map answers of a name: files that are not there read as nought -/
def lookV (n : ByteArray) (ps : List (Fil × Value)) : Value := match ps.find? (fun p => decide (p.1.name = n)) with
  | some p => fileV p
  | none => .agg #[.slice none 0 0, .int .i64 0, .bool false]
end Go.Proofs.Ytoekiencnbgmhaa
/-
  Entries in memory: rows that read as entries, rows of entries of one's own; appends onto these; what is cleared behind them.
  There are no conditions beyond those that each lemma names.
-/
set_option linter.unusedSimpArgs false
set_option linter.unusedVariables false
namespace Go.Proofs.Ytoekiencnbgmhaa
open Go.RowKit Go.Deep
set_option maxRecDepth 100000

def Ent.cs (e : Ent) : List Value := [.int .i64 e.ix, .int .i64 e.et, .int .i64 e.kd, .string e.data]
theorem ents_len (L : List Ent) : (L.flatMap Ent.cs).length = L.length * 4 := by
  induction L with
  | nil => rfl
  | cons x t ih =>
    have h3 : (Ent.cs x).length = 4 := rfl
    rw [List.flatMap_cons, List.length_append, ih, h3, List.length_cons]; omega
theorem ent_one (e : Ent) : ∀ v ∈ e.cs, v.oneCell' = true := by
  intro v hv
  simp only [Ent.cs, List.mem_cons, List.not_mem_nil, or_false] at hv
  rcases hv with rfl | rfl | rfl | rfl <;> rfl
theorem ents_one (L : List Ent) : ∀ v ∈ L.flatMap Ent.cs, v.oneCell' = true := by
  intro v hv
  obtain ⟨e, _, he⟩ := List.mem_flatMap.1 hv
  exact ent_one e v he
theorem eflat_at : ∀ (L : List Ent) (k : Nat) (h : k < L.length) (j : Nat) (v : Value), (Ent.cs L[k])[j]? = some v → (L.flatMap Ent.cs)[k * 4 + j]? = some v
  | x :: t, 0, _, j, v, hv => by
    have hj : j < (Ent.cs x).length := (List.getElem?_eq_some_iff.1 hv).1
    rw [List.flatMap_cons, Nat.zero_mul, Nat.zero_add, List.getElem?_append_left hj]; exact hv
  | x :: t, k + 1, h, j, v, hv => by
    have h3 : (Ent.cs x).length = 4 := rfl
    rw [List.flatMap_cons, List.getElem?_append_right (by omega), h3, show (k + 1) * 4 + j - 4 = k * 4 + j by omega]
    exact eflat_at t k (by simpa using h) j v hv
/-- a slice that reads as entries, in a block of which N holds -/
def Ens (N : Nat → Prop) (w : World) (v : Value) (L : List Ent) : Prop :=
  ∃ A c, v = .slice A L.length c ∧ L.length ≤ c ∧ (0 < L.length → ∃ g o, A = some ⟨g, o, Option.none⟩ ∧ N g ∧ ∀ k (h : k < L.length), w.rangeAt g (o + k * 4) L[k].cs)
theorem Ens.slice {N : Nat → Prop} {w : World} {v : Value} {L : List Ent} (h : Ens N w v L) : ∃ A c, v = .slice A L.length c ∧ L.length ≤ c := by
  obtain ⟨A, c, h1, h2, _⟩ := h; exact ⟨A, c, h1, h2⟩
theorem Ens.nil (N : Nat → Prop) (w : World) : Ens N w (.slice none 0 0) [] := ⟨none, 0, rfl, Nat.le_refl _, fun h => absurd h (by simp)⟩
theorem Ens.keep {N : Nat → Prop} {w w' : World} {v : Value} {L : List Ent} (h : Ens N w v L) (hk : ∀ p : Addr, N p.block → p.block < w.heap.size → w'.cell? p = w.cell? p) : Ens N w' v L := by
  obtain ⟨A, c, h1, h2, h3⟩ := h
  refine ⟨A, c, h1, h2, fun h => ?_⟩
  obtain ⟨g, o, hA, hN, hc⟩ := h3 h
  refine ⟨g, o, hA, hN, fun k hk' j z hj => ?_⟩
  have := hc k hk' j z hj
  rw [← this]
  exact hk _ hN (cell_lt this)
theorem Ens.mono {N M : Nat → Prop} {w : World} {v : Value} {L : List Ent} (h : Ens N w v L) (hM : ∀ g, N g → g < w.heap.size → M g) : Ens M w v L := by
  obtain ⟨A, c, h1, h2, h3⟩ := h
  refine ⟨A, c, h1, h2, fun h => ?_⟩
  obtain ⟨g, o, hA, hN, hc⟩ := h3 h
  refine ⟨g, o, hA, hM g hN ?_, hc⟩
  exact cell_lt (hc 0 h 0 _ rfl)
theorem Ens.below {N : Nat → Prop} {w w' : World} {v : Value} {L : List Ent} (h : Ens N w v L) (hb : Below w.heap.size w w') : Ens N w' v L := h.keep fun _ _ hp => hb.cell hp
theorem Ens.under {B C : Nat} {w w' : World} {v : Value} {L : List Ent} (h : Ens (fun g => g < B) w v L) (hb : Below C w w') (hC : B ≤ C) : Ens (fun g => g < B) w' v L := h.keep fun _ hp _ => hb.cell (Nat.lt_of_lt_of_le hp hC)
theorem Ens.off {S : Nat → Prop} {w w' : World} {v : Value} {L : List Ent} (h : Ens (fun g => ¬ S g) w v L) (ho : Off S w w') : Ens (fun g => ¬ S g) w' v L := h.keep fun _ hp hl => ho.cell hl hp
theorem Ens.at_ {N : Nat → Prop} {w : World} {n c : Nat} {A : Option Addr} {L : List Ent} (h : Ens N w (.slice A n c) L) (k : Nat) (hk : k < L.length) : ∃ g o, A = some ⟨g, o, Option.none⟩ ∧ N g ∧ g < w.heap.size ∧ w.rangeAt g (o + k * 4) L[k].cs := by
  obtain ⟨A', c', h1, _, h3⟩ := h
  injection h1 with e1 e2 e3
  subst e1
  obtain ⟨g, o, hA, hN, hc⟩ := h3 (by omega)
  exact ⟨g, o, hA, hN, cell_lt (hc k hk 0 _ rfl), hc k hk⟩
theorem Ens.len {N : Nat → Prop} {w : World} {n c : Nat} {A : Option Addr} {L : List Ent} (h : Ens N w (.slice A n c) L) : n = L.length ∧ n ≤ c := by
  obtain ⟨A', c', h1, h2, _⟩ := h
  injection h1 with e1 e2 e3
  subst e2; subst e3
  exact ⟨rfl, h2⟩
theorem Ens.take {N : Nat → Prop} {w : World} {n c : Nat} {A : Option Addr} {L : List Ent} (h : Ens N w (.slice A n c) L) (j : Nat) (hj : j ≤ L.length) : Ens N w (.slice A j c) (L.take j) := by
  obtain ⟨A', c', h1, h2, h3⟩ := h
  injection h1 with e1 e2 e3
  subst e1; subst e3
  have hl : (L.take j).length = j := by rw [List.length_take]; omega
  refine ⟨A, c, by rw [hl], by omega, fun h0 => ?_⟩
  rw [hl] at h0
  obtain ⟨g, o, hA, hN, hc⟩ := h3 (by omega)
  refine ⟨g, o, hA, hN, fun k hk => ?_⟩
  rw [hl] at hk
  rw [List.getElem_take]
  exact hc k (by omega)
/-- the part from j on -/
theorem Ens.drop {N : Nat → Prop} {w : World} {n c : Nat} {A : Option Addr} {L : List Ent} (h : Ens N w (.slice A n c) L) (j : Nat) (hj : j ≤ L.length) : Ens N w (.slice (if c = j then A else A.map (·.add (j * 4))) (L.length - j) (c - j)) (L.drop j) := by
  obtain ⟨A', c', h1, h2, h3⟩ := h
  injection h1 with e1 e2 e3
  subst e1; subst e3
  have hl : (L.drop j).length = L.length - j := List.length_drop
  refine ⟨_, _, by rw [hl], by omega, fun h0 => ?_⟩
  rw [hl] at h0
  obtain ⟨g, o, hA, hN, hc⟩ := h3 (by omega)
  subst hA
  rw [if_neg (by omega)]
  refine ⟨g, o + j * 4, add_lit_10 g o (j * 4), hN, fun k hk => ?_⟩
  rw [hl] at hk
  rw [List.getElem_drop, show o + j * 4 + k * 4 = o + (j + k) * 4 by omega]
  exact hc (j + k) (by omega)
/-- a row of entries of one's own -/
def OwnEn (B : Nat) (v : Value) (L : List Ent) (w : World) : Prop := w.ownsRow B 65 4 v L.length (L.flatMap Ent.cs)
theorem OwnEn.nil (B : Nat) (w : World) : OwnEn B (.slice none 0 0) [] w := World.ownsRow_nil _ _ _ _
theorem OwnEn.below {B : Nat} {v : Value} {L : List Ent} {w w' : World} (h : OwnEn B v L w) (hb : Below w.heap.size w w') : OwnEn B v L w' := ownsRow_below h hb
theorem OwnEn.down {B C : Nat} {v : Value} {L : List Ent} {w : World} (h : OwnEn C v L w) (hB : B ≤ C) : OwnEn B v L w := ownsRow_down h hB
theorem OwnEn.slice {B : Nat} {v : Value} {L : List Ent} {w : World} (h : OwnEn B v L w) : ∃ A c, v = .slice A L.length c := own_slice h
theorem OwnEn.lt {B : Nat} {v : Value} {L : List Ent} {w : World} (h : OwnEn B v L w) : ∀ k, v.ownBlock = some k → B ≤ k ∧ k < w.heap.size := World.ownsRow.lt h
theorem OwnEn.off {S : Nat → Prop} {w w' : World} {B : Nat} {v : Value} {L : List Ent} (h : OwnEn B v L w) (ho : Off S w w') (hS : ∀ k, v.ownBlock = some k → ¬ S k) : OwnEn B v L w' := ho.ownsRow h hS
theorem Ens.of_own {B : Nat} {v : Value} {L : List Ent} {w : World} (h : OwnEn B v L w) : Ens (fun g => v.ownBlock = some g) w v L := by
  have hlt := OwnEn.lt h
  obtain ⟨A, c, rfl⟩ := h.slice
  have hc := fun (g : Nat) (hg : (Value.slice A L.length c).ownBlock = some g) => World.ownsRow.cells h hg
  rcases h.2 with ⟨hv, h0⟩ | ⟨g, c', cur, hv, hB, _, hnc, _⟩
  · injection hv with e1 e2 e3
    subst e1
    exact ⟨none, c, rfl, by omega, fun h => absurd h (by omega)⟩
  · injection hv with e1 _ e3
    subst e1; subst e3
    refine ⟨_, _, rfl, hnc, fun _ => ⟨g, 0, rfl, rfl, fun k hk j z hj => ?_⟩⟩
    have h3 := hc g rfl (k * 4 + j) z (eflat_at L k hk j z hj)
    rw [Addr.add_mid] at h3
    rw [← h3]; congr 2; omega
theorem eflat_take (L : List Ent) (j : Nat) : (L.take j).flatMap Ent.cs = (L.flatMap Ent.cs).take (j * 4) := by
  induction L generalizing j with
  | nil => simp
  | cons x t ih =>
    cases j with
    | zero => simp
    | succ j =>
      have h3 : (Ent.cs x).length = 4 := rfl
      rw [List.take_succ_cons, List.flatMap_cons, List.flatMap_cons, ih j, List.take_append (i := (j + 1) * 4), List.take_of_length_le (l := x.cs) (by omega)]
      congr 2; rw [h3]; omega
/-- the beginning of a row of one's own -/
theorem OwnEn.take {B n c j : Nat} {A : Option Addr} {L : List Ent} {w : World} (h : OwnEn B (.slice A n c) L w) (hj : j ≤ L.length) : OwnEn B (.slice A j c) (L.take j) w := by
  have hl : (L.take j).length = j := by rw [List.length_take]; omega
  refine ⟨by rw [ents_len], ?_⟩
  rw [hl, eflat_take]
  rcases h.2 with ⟨hv, h0⟩ | ⟨g, c', cur, hv, hB, hg, hnc, hm, hs, hx⟩
  · injection hv with e1 e2 e3
    subst e1; subst e2; subst e3
    exact .inl ⟨by rw [show j = 0 by omega], by omega⟩
  · injection hv with e1 e2 e3
    subst e1; subst e2; subst e3
    refine .inr ⟨g, c, cur, rfl, hB, hg, by omega, hm, hs, ?_⟩
    rw [← hx, List.take_take, Nat.min_eq_left (by omega)]
theorem Try.infoEn : (Try.prog.info? 65).map (fun i => (i.zero, i.size, i.bytes)) = some (some (.agg #[.int .i64 0, .int .i64 0, .int .i64 0, .string ⟨#[]⟩]), 4, 40) := by kernel_rfl
/-- entries appended onto a row of one's own -/
theorem run_append_En (w : World) (B : Nat) (v : Value) (L M : List Ent) (ty : TypeId) (a : Addr) (n c : Nat) (hown : OwnEn B v L w) (N : Nat → Prop) (hM : Ens N w (.slice (some a) n c) M) (hl : L.length + M.length ≤ 1050000) (hB : B ≤ w.heap.size) :
    ∃ v' w', (Builtin.append_ #[24, 24] ty #[v, .slice (some a) n c]).run Try.prog w = .ok v' w' ∧ OwnEn B v' (L ++ M) w' ∧ Grew v w v' w' ∧ Below B w w' := by
  obtain ⟨iO, hiO, hzO0, hzO1, hzO2⟩ := info_parts Try.infoEn
  obtain ⟨rfl, _⟩ := hM.len
  obtain ⟨A', c', hv, hc, hx⟩ := hM
  injection hv with e1 _ e3
  subst e1; subst e3
  have hlm := ents_len M
  have hgr := fun (w' : World) (hg : w.grownBy w' v.ownBlock) => (Below.refl B w).grown hg hB (fun g hg => (World.ownsRow.lt hown g hg).1)
  obtain ⟨v', w', hr, h2, h3, _, h5⟩ := run_append_own_at (P := Try.prog) w B 24 ty 65 iO _ 4 40 Try.underlying24 hiO hzO0 hzO1 hzO2 rfl (by decide) v L.length _ hown a M.length c (M.flatMap Ent.cs) hlm
    (by
      intro j z hj
      have hjl : j < M.length * 4 := by rw [← hlm]; exact (List.getElem?_eq_some_iff.1 hj).1
      have hq : j / 4 < M.length := by omega
      obtain ⟨g, o, e1, _, hcs⟩ := hx (by omega)
      injection e1 with e1
      subst e1
      have hm : (Ent.cs M[j / 4])[j % 4]? = some z := by
        have hlt : j % 4 < (Ent.cs M[j / 4]).length := by show j % 4 < 4; omega
        have := eflat_at M (j / 4) hq (j % 4) _ (List.getElem?_eq_getElem hlt)
        rw [show j / 4 * 4 + j % 4 = j by omega, hj] at this
        rw [List.getElem?_eq_getElem hlt]; exact this.symm
      have := hcs (j / 4) hq (j % 4) z hm
      rw [Addr.add_mid, ← this]
      congr 2; omega) (ents_one M) (by unfold maxLen; omega) (by omega) hB
  refine ⟨v', w', hr, ?_, ⟨h3, h5⟩, hgr w' h3⟩
  unfold OwnEn
  rw [List.length_append, List.flatMap_append]
  exact h2
theorem Ens.four {N : Nat → Prop} {w : World} {n c : Nat} {A : Option Addr} {L : List Ent} (h : Ens N w (.slice A n c) L) (k : Nat) (hk : k < L.length) {ix et kd : Int} {dt : ByteArray} (he : L[k] = ⟨ix, et, kd, dt⟩) : ∃ g o, A = some ⟨g, o, Option.none⟩ ∧ g < w.heap.size ∧
    w.cell? ⟨g, o + k * 4, none⟩ = some (.int .i64 ix) ∧ w.cell? ⟨g, o + k * 4 + 1, none⟩ = some (.int .i64 et) ∧ w.cell? ⟨g, o + k * 4 + 2, none⟩ = some (.int .i64 kd) ∧ w.cell? ⟨g, o + k * 4 + 3, none⟩ = some (.string dt) := by
  obtain ⟨g, o, hA, _, hl, hr⟩ := h.at_ k hk
  rw [he] at hr
  exact ⟨g, o, hA, hl, hr 0 _ rfl, hr 1 _ rfl, hr 2 _ rfl, hr 3 _ rfl⟩
theorem OwnEn.set_same {B n c k : Nat} {g : Nat} {L : List Ent} {w : World} {dt : ByteArray} (h : OwnEn B (.slice (some ⟨g, 0, none⟩) n c) L w) (hk : k < L.length) (hd : L[k].data = dt) : OwnEn B (.slice (some ⟨g, 0, none⟩) n c) L (w.setCell ⟨g, k * 4 + 3, none⟩ (.string dt)) := by
  refine ⟨h.1, ?_⟩
  rcases h.2 with ⟨hv, _⟩ | ⟨g', c', cur, hv, hB, hg, h1, h2, h3, h4⟩
  · cases hv
  · injection hv with e1 e2 e3
    injection e1 with e1; injection e1 with e1
    subst e1; subst e3; subst e2
    have hf := eflat_at L k hk 3 (.string dt) (by rw [← hd]; rfl)
    have hcur : cur.toList[k * 4 + 3]? = some (.string dt) := by
      have h5 := List.getElem?_take (l := cur.toList) (i := L.length * 4) (j := k * 4 + 3)
      rw [h4, if_pos (by omega)] at h5
      rw [← h5]; exact hf
    have hs : cur.setIfInBounds (k * 4 + 3) (.string dt) = cur := by
      apply Array.ext_getElem?
      intro i
      rw [Array.getElem?_setIfInBounds]
      split
      · rename_i he
        subst he
        rw [Array.getElem?_toList] at hcur
        split
        · exact hcur.symm
        · rename_i hx
          rw [Array.getElem?_eq_none (by omega)] at hcur; cases hcur
      · rfl
    refine .inr ⟨g, c, cur, rfl, hB, ?_, h1, h2, h3, h4⟩
    have := heap_setCell_same w g (k * 4 + 3) _ _ (.string dt) hg
    rw [hs] at this; exact this
theorem own_ne11 {T : TypeId} {g B : Nat} {cs : List Value} {v : Value} {L : List Ent} {w : World} (hT : T ≠ 65) (hx : Rt w g T cs) (hO : OwnEn B v L w) : v.ownBlock ≠ some g := by
  intro h
  rcases hO.2 with ⟨hv, _⟩ | ⟨g', c', cur, hv, _, hg, _⟩
  · rw [hv] at h; cases h
  · rw [hv] at h
    have e : g' = g := Option.some.inj (show some g' = some g from h)
    subst e
    unfold Rt at hx
    rw [hx] at hg
    injection hg with hg
    injection hg with _ h4 _
    exact hT h4
theorem Rt.grown11 {w w' : World} {g : Nat} {r : Option Nat} {t : TypeId} {cs : List Value} (h : Rt w g t cs) (hb : w.grownBy w' r) (hne : r ≠ some g) : Rt w' g t cs := (hb.block g h.lt (fun e => hne e.symm)).trans h
end Go.Proofs.Ytoekiencnbgmhaa
/-
  slices.Clone, Insert and Replace on rows of entries.
  There are no conditions beyond those that each lemma names.
-/
set_option linter.unusedSimpArgs false
set_option linter.unusedVariables false
namespace Go.Proofs.Ytoekiencnbgmhaa
open Go.RowKit Go.Deep
set_option maxRecDepth 100000

theorem append_En {w : World} {ops : Array Oper} {rest : List Oper} {o : Oper} {a : Act} {Q : Exit → Act → World → Prop} (hgd : o.guard = none) (s x : Operand)
    (ho : o.op = .call { callee := .builtin .append, args := #[s, x], argTypes := #[24, 24] })
    (B : Nat) (v : Value) (L M : List Ent) (p : Addr) (n c : Nat) (N : Nat → Prop) (hs : a.eval s = v) (hown : OwnEn B v L w) (hx : a.eval x = .slice (some p) n c) (hM : Ens N w (.slice (some p) n c) M) (hl : L.length + M.length ≤ 1050000) (hB : B ≤ w.heap.size)
    (h : ∀ v' w', OwnEn B v' (L ++ M) w' → Grew v w v' w' → Below B w w' → wpList Try.prog ops Q rest (a.put o.dst v') w') : wpList Try.prog ops Q (o :: rest) a w := by
  refine wpList_plain hgd fun K hK => ?_
  obtain ⟨v', w', hr, h1, h2, h3⟩ := run_append_En w B v L M o.type p n c hown N hM hl hB
  unfold Oper.wp execOp
  simp only [ho, resolve, invoke, builtin, Sem.run_bind, Sem.run_pure, Result.andThen_ok, List.map_toArray, List.map_cons, List.map_nil, hs, hx, hr]
  exact hK _ _ (h v' w' h1 h2 h3)
theorem Try.zeroEn (w : World) : (zeroValue 65).run Try.prog w = .ok (.agg #[.int .i64 0, .int .i64 0, .int .i64 0, .string ⟨#[]⟩]) w := by kernel_rfl
theorem zcells_len (n : Nat) : (Builtin.zeroCells (Value.agg #[.int .i64 0, .int .i64 0, .int .i64 0, .string ⟨#[]⟩]).cells n).toList.length = n * 4 := by
  rw [Array.length_toList, size_zeroCells]; rfl
theorem zcells_one (n : Nat) : ∀ z ∈ (Builtin.zeroCells (Value.agg #[.int .i64 0, .int .i64 0, .int .i64 0, .string ⟨#[]⟩]).cells n).toList, z.oneCell' = true := by
  intro z hz
  rw [Array.mem_toList_iff] at hz
  unfold Builtin.zeroCells at hz
  obtain ⟨i, _, rfl⟩ := Array.mem_map.1 hz
  have h4 : (Value.agg #[.int .i64 0, .int .i64 0, .int .i64 0, .string ⟨#[]⟩]).cells = #[.int .i64 0, .int .i64 0, .int .i64 0, .string ⟨#[]⟩] := by kernel_rfl
  rw [h4]
  have : i % (#[Value.int .i64 0, .int .i64 0, .int .i64 0, .string ⟨#[]⟩] : Array Value).size < 4 := Nat.mod_lt _ (by decide)
  obtain ⟨j, hj⟩ : ∃ j, i % (#[Value.int .i64 0, .int .i64 0, .int .i64 0, .string ⟨#[]⟩] : Array Value).size = j := ⟨_, rfl⟩
  rw [hj] at this ⊢
  match j, this with
  | 0, _ => rfl
  | 1, _ => rfl
  | 2, _ => rfl
  | 3, _ => rfl
/-- clear on a row of entries -/
theorem run_clear_En (w : World) (g o m c : Nat) (hm : 0 < m) (hc : ∀ j, j < m * 4 → (w.cell? ⟨g, o + j, none⟩).isSome = true) (hf : ∀ j, j < m * 4 → w.frozen? ⟨g, o + j, none⟩ = false) :
    ∃ zs : List Value, zs.length = m * 4 ∧ ∀ ty, (Builtin.clear_ #[24] ty #[.slice (some ⟨g, o, none⟩) m c]).run Try.prog w = .ok (.tuple #[]) (w.setCells g o zs) := by
  refine ⟨_, zcells_len m, fun ty => ?_⟩
  have hst := run_storeCells_cells (P := Try.prog) g o (Builtin.zeroCells (Value.agg #[.int .i64 0, .int .i64 0, .int .i64 0, .string ⟨#[]⟩]).cells m).toList 0 w (by rw [zcells_len]; simpa using hc) (by rw [zcells_len]; simpa using hf) (zcells_one m)
  simp only [Nat.add_zero] at hst
  obtain ⟨k, rfl⟩ : ∃ k, m = k + 1 := ⟨m - 1, by omega⟩
  simp [Builtin.clear_, run_underlying Try.underlying24, Try.zeroEn, hst]
/-- what stands ahead of cells that are stored stands -/
theorem own_clear {w : World} {B j c o g : Nat} {L : List Ent} {zs : List Value} (h : OwnEn B (.slice (some ⟨g, 0, none⟩) j c) L w) (ho : L.length * 4 ≤ o) : OwnEn B (.slice (some ⟨g, 0, none⟩) j c) L (w.setCells g o zs) := by
  have key : ∀ (zs : List Value) (o : Nat) (w : World), OwnEn B (.slice (some ⟨g, 0, none⟩) j c) L w → L.length * 4 ≤ o → OwnEn B (.slice (some ⟨g, 0, none⟩) j c) L (w.setCells g o zs) := by
    intro zs
    induction zs with
    | nil => intro o w h _; exact h
    | cons z t ih =>
      intro o w h ho
      refine ih (o + 1) _ ?_ (by omega)
      refine ⟨h.1, ?_⟩
      rcases h.2 with ⟨hv, _⟩ | ⟨g', c', cur, hv, hB, hg, h1, h2, h3, h4⟩
      · cases hv
      · injection hv with e1 e2 e3
        injection e1 with e1; injection e1 with e1
        subst e1; subst e3
        refine .inr ⟨g, c, cur.setIfInBounds o z, by rw [e2], hB, heap_setCell_same w g o _ _ _ hg, h1, h2, by simpa using h3, ?_⟩
        rw [Array.toList_setIfInBounds, List.take_set, List.set_eq_of_length_le (by rw [List.length_take]; omega)]
        exact h4
  exact key zs o w h ho
theorem below_setCells11 {B g : Nat} (hg : B ≤ g) : ∀ (vs : List Value) (o : Nat) (w : World), Below B w (w.setCells g o vs)
  | [], _, w => Below.refl _ _
  | v :: r, o, w => ((Below.refl B w).setCell (p := ⟨g, o, none⟩) hg v).trans (below_setCells11 hg r (o + 1) _)
theorem grown_setCells11 {g : Nat} : ∀ (vs : List Value) (o : Nat) (w : World), w.grownBy (w.setCells g o vs) (some g)
  | [], _, w => ⟨rfl, rfl, rfl, Nat.le_refl _, fun _ _ _ => rfl⟩
  | v :: r, o, w => grown_trans10 (setCell_grown w ⟨g, o, none⟩ v) (grown_setCells11 r (o + 1) _)
set_option maxHeartbeats 400000 in
theorem kclone_any (N : Nat → Prop) (A : Option Addr) (n c : Nat) (L : List Ent) (w : World) (h : Ens N w (.slice A n c) L) (hl : L.length ≤ 1050000) :
    Calls Try.prog 64 #[.slice A n c] w fun e w' => ∃ v, e = .returned v ∧ OwnEn w.heap.size v L w' ∧ Below w.heap.size w w' := by
  have k0 := fun w => Lib.run_eql_slice_nil (P := Try.prog) w 24 65 A n c 0 0 Try.underlying24
  cases A with
  | none =>
    have hL : L = [] := by
      cases L with
      | nil => rfl
      | cons x t => obtain ⟨g, o, e, _⟩ := h.at_ 0 (by simp); cases e
    subst hL
    go_enter Try.func64, Try.ntmps64
    go_wp2
    go_ret
    exact ⟨_, rfl, OwnEn.nil _ _, Below.refl _ _⟩
  | some a =>
    have h1 := h.below (below_new w (.cells #[] 65))
    have hO : OwnEn w.heap.size (.slice (some ⟨w.heap.size, 0, none⟩) 0 0) [] (w.alloc (.cells #[] 65)) := ⟨rfl, .inr ⟨w.heap.size, 0, #[], rfl, Nat.le_refl _, heap_alloc_new _ _, Nat.le_refl _, Nat.zero_le _, rfl, rfl⟩⟩
    have hB := below_new w (.cells #[] 65)
    have H1 := Lib.hid h1
    have HO := Lib.hid hO
    clear h1 hO h
    go_enter Try.func64, Try.ntmps64
    go_wp2_with (at_builtin; refine append_En rfl _ _ rfl w.heap.size _ _ _ _ _ _ _ rfl HO.out rfl H1.out (by simpa using hl) hB.size ?_; intro v' w' g1 g2 g3)
    go_ret
    exact ⟨_, rfl, g1, hB.trans g3⟩
/-- what came of writing onto a row of one's own -/
def Rew (v : Value) (L : List Ent) (w : World) (e : Ending) (w' : World) : Prop := ∃ v', e = .returned v' ∧ OwnEn 0 v' L w' ∧ Grew v w v' w'
theorem Grew.refl (v : Value) (w : World) : Grew v w v w := ⟨grownBy_refl w _, .inl rfl⟩
set_option maxHeartbeats 400000 in
/-- Insert at the end -/
theorem kinsert_any (N : Nat → Prop) (A : Option Addr) (n c m d : Nat) (a : Addr) (L M : List Ent) (w : World) (hL : OwnEn 0 (.slice A n c) L w) (hM : Ens N w (.slice (some a) m d) M) (h0 : 0 < m) (hl : L.length + M.length ≤ 1050000) :
    Calls Try.prog 74 #[.slice A n c, .int .i64 n, .slice (some a) m d] w (Rew (.slice A n c) (L ++ M) w) := by
  have hn : n ≤ c := (Ens.of_own hL).len.2
  have H1 := Lib.hid hM
  have HO := Lib.hid hL
  have HL := Lib.hid hl
  have hx : ¬ m = 0 := by omega
  clear hM hL hl
  go_enter Try.func74, Try.ntmps74
  by_cases hcn : c = n
  · subst hcn
    go_wp2_with (at_builtin; refine append_En rfl _ _ rfl 0 (.slice A c c) _ _ _ _ _ _ rfl HO.out rfl H1.out HL.out (Nat.zero_le _) ?_; intro v' w' g1 g2 g3)
    go_ret
    exact ⟨v', rfl, g1, g2⟩
  · go_wp2_with (at_builtin; refine append_En rfl _ _ rfl 0 (.slice A n c) _ _ _ _ _ _ rfl HO.out rfl H1.out HL.out (Nat.zero_le _) ?_; intro v' w' g1 g2 g3)
    go_ret
    exact ⟨v', rfl, g1, g2⟩
theorem En.news {N : Nat → Prop} {w : World} {a : Addr} {n c : Nat} {M : List Ent} (hM : Ens N w (.slice (some a) n c) M) : ∀ j u, (M.flatMap Ent.cs)[j]? = some u → w.cell? (a.add j) = some u := by
  have hlm := ents_len M
  intro j z hj
  have hjl : j < M.length * 4 := by rw [← hlm]; exact (List.getElem?_eq_some_iff.1 hj).1
  have hq : j / 4 < M.length := by omega
  obtain ⟨g, o, e1, _, _, hcs⟩ := hM.at_ (j / 4) hq
  injection e1 with e1
  subst e1
  have hm : (Ent.cs M[j / 4])[j % 4]? = some z := by
    have hlt : j % 4 < (Ent.cs M[j / 4]).length := by show j % 4 < 4; omega
    have := eflat_at M (j / 4) hq (j % 4) _ (List.getElem?_eq_getElem hlt)
    rw [show j / 4 * 4 + j % 4 = j by omega, hj] at this
    rw [List.getElem?_eq_getElem hlt]; exact this.symm
  have := hcs (j % 4) z hm
  rw [Addr.add_mid, ← this]
  congr 2; omega
/-- entries appended where there is room -/
theorem append_fits_En {w : World} {ops : Array Oper} {rest : List Oper} {o : Oper} {a : Act} {Q : Exit → Act → World → Prop} (hgd : o.guard = none) (s x : Operand)
    (ho : o.op = .call { callee := .builtin .append, args := #[s, x], argTypes := #[24, 24] })
    (g i cap : Nat) (L M : List Ent) (p : Addr) (m c : Nat) (N : Nat → Prop) (hs : a.eval s = .slice (some ⟨g, 0, none⟩) i cap) (hown : OwnEn 0 (.slice (some ⟨g, 0, none⟩) i cap) L w) (hx : a.eval x = .slice (some p) m c) (hM : Ens N w (.slice (some p) m c) M) (hl : i + m ≤ cap)
    (h : ∀ w', OwnEn 0 (.slice (some ⟨g, 0, none⟩) (i + m) cap) (L ++ M) w' → w.grownBy w' (some g) → wpList Try.prog ops Q rest (a.put o.dst (.slice (some ⟨g, 0, none⟩) (i + m) cap)) w') : wpList Try.prog ops Q (o :: rest) a w := by
  refine wpList_plain hgd fun K hK => ?_
  obtain ⟨iO, hiO, hzO0, hzO1, hzO2⟩ := info_parts Try.infoEn
  have h1 := (Ens.of_own hown).len.1
  have h2 := hM.len.1
  have hown' : w.ownsRow 0 65 4 (.slice (some ⟨g, 0, none⟩) i cap) i (L.flatMap Ent.cs) := by rw [h1] at hown ⊢; exact hown
  obtain ⟨w', hr, g1, g2⟩ := run_append_fits (P := Try.prog) w 0 24 o.type 65 iO 4 Try.underlying24 hiO hzO1 g i cap _ hown' p m c (M.flatMap Ent.cs) (by rw [ents_len, h2]) (En.news hM) (ents_one M) hl
  unfold Oper.wp execOp
  simp only [ho, resolve, invoke, builtin, Sem.run_bind, Sem.run_pure, Result.andThen_ok, List.map_toArray, List.map_cons, List.map_nil, hs, hx, hr]
  refine hK _ _ (h w' ?_ g2)
  unfold OwnEn
  rw [List.length_append, List.flatMap_append, ← h1, ← h2]
  exact g1
theorem OwnEn.cells {B g i cap : Nat} {L : List Ent} {w : World} (h : OwnEn B (.slice (some ⟨g, 0, none⟩) i cap) L w) : (∀ j, j < cap * 4 → (w.cell? ⟨g, j, none⟩).isSome = true) ∧ ∀ j, w.frozen? ⟨g, j, none⟩ = false := by
  rcases h.2 with ⟨hv, _⟩ | ⟨g', c', cur, hv, hB, hg, h1, h2, h3, h4⟩
  · cases hv
  · injection hv with e1 e2 e3
    injection e1 with e1; injection e1 with e1
    subst e1; subst e3
    refine ⟨fun j hj => ?_, fun j => frozen_of_row w g j _ _ hg⟩
    rw [cell_of_row w g j _ _ _ hg, Array.getElem?_eq_getElem (by omega)]; rfl
set_option maxHeartbeats 400000 in
/-- Replace of all from i on -/
theorem kreplace_any (N : Nat → Prop) (A : Option Addr) (i n c m d : Nat) (a : Addr) (L M : List Ent) (w : World) (hL : OwnEn 0 (.slice A n c) L w) (hM : Ens N w (.slice (some a) m d) M) (h0 : 0 < m) (hi : i ≤ n) (hl : L.length + M.length ≤ 1050000) :
    Calls Try.prog 65 #[.slice A n c, .int .i64 i, .int .i64 n, .slice (some a) m d] w (Rew (.slice A n c) (L.take i ++ M) w) := by
  have hn : n ≤ c := (Ens.of_own hL).len.2
  have hnL : n = L.length := (Ens.of_own hL).len.1
  have hmM : m = M.length := hM.len.1
  have hx : ¬ m = 0 := by omega
  by_cases hin : i = n
  · subst hin
    have ht : L.take i = L := by rw [hnL, List.take_length]
    rw [ht]
    have H1 := Lib.hid hM
    have HO := Lib.hid hL
    have HL := Lib.hid hl
    clear hM hL ht hnL hl hi hmM
    go_enter Try.func65, Try.ntmps65
    by_cases hci : c = i
    · subst hci
      go_wp2_with fail
      refine (kinsert_any N A c c m d a L M w HO.out H1.out h0 HL.out).mono ?_
      rintro e w1 ⟨v', rfl, g1, g2⟩
      go_wp2
      go_ret
      exact ⟨_, rfl, g1, g2⟩
    · go_wp2_with fail
      refine (kinsert_any N A i c m d a L M w HO.out H1.out h0 HL.out).mono ?_
      rintro e w1 ⟨v', rfl, g1, g2⟩
      go_wp2
      go_ret
      exact ⟨_, rfl, g1, g2⟩
  · have HT := Lib.hid (hL.take (j := i) (by omega))
    have H1 := Lib.hid hM
    have hlt : (L.take i).length = i := by rw [List.length_take]; omega
    have HLT := Lib.hid (show (L.take i).length + M.length ≤ 1050000 by omega)
    have hii : i < n := by omega
    have hbi : ((i : Int) == (n : Int)) = false := by simp; omega
    obtain ⟨g, rfl⟩ : ∃ g, A = some ⟨g, 0, Option.none⟩ := by
      rcases hL.2 with ⟨hv, h2⟩ | ⟨g', c', cur, hv, _⟩
      · omega
      · injection hv with e1 _ _
        exact ⟨g', e1⟩
    have hlq : (L.take i ++ M).length = i + m := by rw [List.length_append, hlt, hmM]
    by_cases hq : i + m < n
    · have HQ := Lib.hid hlq
      have hbq : decide (((i + m : Nat) : Int) < (n : Int)) = true := by simp; omega
      have hbc : ¬ c = i + m := by omega
      clear hM hL hlt hl hnL hlq hmM
      go_enter Try.func65, Try.ntmps65
      go_wp2_with (at_builtin; refine append_fits_En rfl _ _ rfl g i c _ _ _ _ _ _ rfl HT.out rfl H1.out (by omega) ?_; intro w' g1 g2; (have C := g1.cells); (obtain ⟨zs, hz, hcl⟩ := run_clear_En w' g ((i + m) * 4) (n - (i + m)) (c - (i + m)) (by omega) (fun j hj => C.1 _ (by omega)) (fun j _ => C.2 _)); clear C)
      go_ret
      exact ⟨_, rfl, own_clear g1 (by rw [HQ.out]; exact Nat.le_refl _), grown_trans10 g2 (grown_setCells11 _ _ _), .inl rfl⟩
    · have HQ := Lib.hid hlq
      have hq2 : n ≤ i + m := by omega
      have HMM := Lib.hid hmM
      clear hM hL hlt hl hnL hlq hmM
      go_enter Try.func65, Try.ntmps65
      go_wp2_with (at_builtin; refine append_En rfl _ _ rfl 0 (.slice (some ⟨g, 0, none⟩) i c) _ _ _ _ _ _ rfl HT.out rfl H1.out HLT.out (Nat.zero_le _) ?_; intro v' w' g1 g2 g3; (obtain ⟨A2, c2, e2⟩ := g1.slice); rw [HQ.out] at e2; subst e2)
      go_ret
      exact ⟨_, rfl, g1, g2⟩
end Go.Proofs.Ytoekiencnbgmhaa
/-
  A function returns what the plain functions say: SClone.
-/
set_option linter.unusedSimpArgs false
set_option linter.unusedVariables false
namespace Go.Proofs.Ytoekiencnbgmhaa
open Go.RowKit
set_option maxRecDepth 100000

theorem clone_any (s : ByteArray) (w : World) (hs : s.size ≤ 281474976710656) : Calls Try.prog 63 #[.string s] w fun e w' => e = .returned (.string s) ∧ Below w.heap.size w w' := by
  go_enter Try.func63, Try.ntmps63
  go_wp2_with (go_at_call 73; refine (Try.stringslite_Clone s w hs).mono ?_; rintro e w' ⟨rfl, hb⟩)
  go_ret
  exact ⟨rfl, hb⟩
end Go.Proofs.Ytoekiencnbgmhaa
/-
  Package rlog's copies of a snapshot and of entries.
  The conditions: texts and rows have at most 1,050,000 bytes and entries.
-/
set_option linter.unusedSimpArgs false
set_option linter.unusedVariables false
namespace Go.Proofs.Ytoekiencnbgmhaa
open Go.RowKit Go.Deep
set_option maxRecDepth 100000

set_option maxHeartbeats 400000 in
theorem lcopyS_any (ix st : Int) (cf dt : ByteArray) (w : World) (hc : cf.size ≤ 1050000) (hd : dt.size ≤ 1050000) :
    Calls Try.prog 42 #[.agg #[.int .i64 ix, .int .i64 st, .string cf, .string dt]] w fun e w' => e = .returned (.agg #[.int .i64 ix, .int .i64 st, .string cf, .string dt]) ∧ Below w.heap.size w w' := by
  go_enter Try.func42, Try.ntmps42
  go_wp2_with fail
  obtain ⟨b, hb⟩ : ∃ b, w.heap.size = b := ⟨_, rfl⟩
  obtain ⟨W, hW⟩ : ∃ W, (w.alloc (.cells #[.int .i64 ix, .int .i64 st, .string cf, .string dt] 23)).alloc (.cells #[.int .i64 0, .int .i64 0, .string ⟨#[]⟩, .string ⟨#[]⟩] 23) = W := ⟨_, rfl⟩
  have hbW : Below b w W := by rw [← hW, ← hb]; exact below_two _ _ _
  have hx : Rt W b 23 [.int .i64 ix, .int .i64 st, .string cf, .string dt] := by
    rw [← hW, ← hb]; exact Rt.below (Rt.new w _ _) (below_new _ _)
  have hy : Rt W (b + 1) 23 [.int .i64 0, .int .i64 0, .string ⟨#[]⟩, .string ⟨#[]⟩] := by
    rw [← hW, ← hb]; exact Rt.new_at _ _ _ _ (by simp)
  rw [hW, hb]
  clear hW
  refine (clone_any cf W (by omega)).mono ?_
  rintro e k1 ⟨rfl, hb1⟩
  have hx1 := hx.below hb1
  have hy1 := hy.below hb1
  have hB1 := hbW.trans (hb1.mono (Nat.le_trans (by omega) hbW.size))
  clear hx hy hbW hb1
  have c0 := hx1.cell (j := 2) rfl
  have c1 := hx1.cell (j := 3) rfl
  have f0 := hx1.frz 2
  go_wp2_with fail
  have hx2 := hx1.set 2 (.string cf)
  have hy2 := hy1.other (g' := b) 2 (.string cf) (by omega)
  obtain ⟨W2, hW2⟩ : ∃ W2, k1.setCell ⟨b, 2, none⟩ (.string cf) = W2 := ⟨_, rfl⟩
  have hB2 : Below b w W2 := by rw [← hW2]; exact hB1.setCell (Nat.le_refl _) _
  rw [hW2] at hx2 hy2 ⊢
  clear hW2 hx1 hy1 hB1 c0 c1 f0
  refine (clone_any dt W2 (by omega)).mono ?_
  rintro e k2 ⟨rfl, hb2⟩
  have hx3 := hx2.below hb2
  have hy3 := hy2.below hb2
  have hB3 := hB2.trans (hb2.mono (Nat.le_trans (by omega) hB2.size))
  clear hx2 hy2 hB2 hb2
  have c0 := hx3.cell (j := 0) rfl
  have c1 := hx3.cell (j := 1) rfl
  have c2 := hx3.cell (j := 2) rfl
  have c3 := hx3.cell (j := 3) rfl
  have f3 := hx3.frz 3
  have d0 := hy3.cell (j := 0) rfl
  have d1 := hy3.cell (j := 1) rfl
  have d2 := hy3.cell (j := 2) rfl
  have d3 := hy3.cell (j := 3) rfl
  have e0 := hy3.frz 0
  have e1 := hy3.frz 1
  have e2 := hy3.frz 2
  have e3 := hy3.frz 3
  have hB4 := ((((hB3.setCell (p := ⟨b, 3, none⟩) (Nat.le_refl b) (.string dt)).setCell (p := ⟨b + 1, 0, none⟩) (Nat.le_succ b) (.int .i64 ix)).setCell (p := ⟨b + 1, 1, none⟩) (Nat.le_succ b) (.int .i64 st)).setCell (p := ⟨b + 1, 2, none⟩) (Nat.le_succ b) (.string cf)).setCell (p := ⟨b + 1, 3, none⟩) (Nat.le_succ b) (.string dt)
  have hy4 := ((((hy3.other (g' := b) 3 (.string dt) (by omega)).set 0 (.int .i64 ix)).set 1 (.int .i64 st)).set 2 (.string cf)).set 3 (.string dt)
  obtain ⟨W4, hW4⟩ : ∃ W4, ((((k2.setCell ⟨b, 3, none⟩ (.string dt)).setCell ⟨b + 1, 0, none⟩ (.int .i64 ix)).setCell ⟨b + 1, 1, none⟩ (.int .i64 st)).setCell ⟨b + 1, 2, none⟩ (.string cf)).setCell ⟨b + 1, 3, none⟩ (.string dt) = W4 := ⟨_, rfl⟩
  rw [hW4] at hB4 hy4
  have g0 := hy4.cell (j := 0) rfl
  have g1 := hy4.cell (j := 1) rfl
  have g2 := hy4.cell (j := 2) rfl
  have g3 := hy4.cell (j := 3) rfl
  have HW4 := Lib.hid hW4
  clear hx3 hy3 hy4 hW4 hB3
  go_wp2
  rw [HW4.out]
  exact bodyPost_ret (v := .agg #[.int .i64 ix, .int .i64 st, .string cf, .string dt]) (by simp [results, Try.results42, go_sem, g0, g1, g2, g3]) rfl ⟨rfl, by rw [hb]; exact hB4⟩
set_option maxHeartbeats 400000 in
theorem lcopyE_any (N : Nat → Prop) (A : Option Addr) (n c : Nat) (L : List Ent) (w : World) (h : Ens N w (.slice A n c) L) (hl : L.length ≤ 1050000) (hd : ∀ e ∈ L, e.data.size ≤ 1050000) :
    Calls Try.prog 43 #[.slice A n c] w fun e w' => ∃ v, e = .returned v ∧ OwnEn w.heap.size v L w' ∧ Below w.heap.size w w' := by
  go_enter Try.func43, Try.ntmps43
  go_wp2_with fail
  refine (kclone_any N A n c L w h hl).mono ?_
  rintro e w1 ⟨v, rfl, hO, hB⟩
  obtain ⟨A1, c1, rfl⟩ := hO.slice
  obtain ⟨q, hq⟩ : ∃ q, L.length = q := ⟨_, rfl⟩
  rw [hq] at hO hl ⊢
  have HQ := Lib.hid hq
  clear hq h
  go_wp2_with fail
  go_loopw [10] (fun i wr => ∃ k : Nat, i = .int .i64 k ∧ k ≤ q ∧ OwnEn w.heap.size (.slice A1 q c1) L wr ∧ Below w.heap.size w wr) (fun i _ => q - (intOf i).toNat)
  case atStart => exact ⟨0, rfl, Nat.zero_le _, hO, hB⟩
  case round =>
    clear hO hB
    obtain ⟨k, rfl, hk, hO, hB⟩ := hrel
    by_cases hkn : k < q
    · have hkL : k < L.length := by rw [HQ.out]; exact hkn
      have hki : (k : Int) < (q : Int) := by omega
      obtain ⟨⟨xk, yk, zk, dk⟩, hxk⟩ : ∃ x, L[k] = x := ⟨_, rfl⟩
      obtain ⟨g, o, e2, hg, b0, b1, b2, b3⟩ := (Ens.of_own hO).four k hkL hxk
      have ho : o = 0 := by
        rcases hO.2 with ⟨hv, _⟩ | ⟨g', c', cur, hv, _⟩
        · rw [e2] at hv; cases hv
        · rw [e2] at hv; injection hv with e1; injection e1 with e1; injection e1
      subst ho; subst e2
      have hdk : dk.size ≤ 1050000 := by have := hd L[k] (List.getElem_mem hkL); rw [hxk] at this; exact this
      have hgB : w.heap.size ≤ g := (hO.lt g rfl).1
      have HXK := Lib.hid hxk
      rw [Nat.zero_add] at b0 b1 b2 b3
      clear hxk
      go_wp2_with fail
      obtain ⟨b, hb⟩ : ∃ b, wr.heap.size = b := ⟨_, rfl⟩
      obtain ⟨W, hW⟩ : ∃ W, wr.alloc (.cells #[.int .i64 xk, .int .i64 yk, .int .i64 zk, .string dk] 65) = W := ⟨_, rfl⟩
      have hO2 : OwnEn w.heap.size (.slice (some ⟨g, 0, none⟩) q c1) L W := by rw [← hW]; exact hO.below (below_new _ _)
      have hB2 : Below w.heap.size w W := by rw [← hW]; exact hB.alloc hB.size _
      rw [hW, hb]
      clear hW hO hB b0 b1 b2 b3 hb hg
      refine (clone_any dk W (by omega)).mono ?_
      rintro e w2 ⟨rfl, h2⟩
      have hO3 := hO2.below h2
      have hB3 := hB2.trans (h2.mono hB2.size)
      have hc3 := hO3.cells
      have f3 := hc3.2 (k * 4 + 3)
      obtain ⟨u3, hu3⟩ := Option.isSome_iff_exists.1 (hc3.1 (k * 4 + 3) (by have := (Ens.of_own hO3).len.2; omega))
      have hO4 := hO3.set_same (dt := dk) hkL (by rw [HXK.out])
      have hB4 := hB3.setCell (p := ⟨g, k * 4 + 3, none⟩) hgB (.string dk)
      clear hO2 hB2 h2 hO3 hB3 hc3
      go_wp2
      go_roundw
      case rel => exact ⟨k + 1, by go_num, by omega, hO4, hB4⟩
      case measure => first | (simp [intOf]; omega) | (simp [intOf]; done)
    · have hkn2 : k = q := by omega
      subst hkn2
      go_wp2
      go_ret
      exact ⟨_, rfl, hO, hB⟩
end Go.Proofs.Ytoekiencnbgmhaa
/-
  Blocks that stand: what a step leaves alone, by a predicate of blocks.
  There are no conditions.
-/
set_option linter.unusedSimpArgs false
set_option linter.unusedVariables false
namespace Go.Proofs.Ytoekiencnbgmhaa
open Go.RowKit Go.Deep
set_option maxRecDepth 100000

/-- blocks of which N holds stand -/
def Std (N : Nat → Prop) (w w' : World) : Prop := Off (fun j => ¬ N j) w w'
theorem Std.size {N : Nat → Prop} {w w' : World} (h : Std N w w') : w.heap.size ≤ w'.heap.size := Off.size h
theorem Std.cell {N : Nat → Prop} {w w' : World} (h : Std N w w') {p : Addr} (hN : N p.block) (hl : p.block < w.heap.size) : w'.cell? p = w.cell? p := Off.cell h hl fun e => e hN
theorem Std.block {N : Nat → Prop} {w w' : World} (h : Std N w w') {j : Nat} (hN : N j) (hl : j < w.heap.size) : w'.heap[j]? = w.heap[j]? := Off.block h j hl fun e => e hN
theorem Std.rt {N : Nat → Prop} {w w' : World} {g : Nat} {t : TypeId} {cs : List Value} (h : Std N w w') (hx : Rt w g t cs) (hN : N g) : Rt w' g t cs := (h.block hN hx.lt).trans hx
theorem Std.refl (N : Nat → Prop) (w : World) : Std N w w := Off.refl _ _
theorem Std.of_below {N : Nat → Prop} {w w' : World} (h : Below w.heap.size w w') : Std N w w' := Off.of_below h
theorem Std.trans {N : Nat → Prop} {a b c : World} (h : Std N a b) (k : Std N b c) : Std N a c := Off.trans h k fun _ hj => .inl hj
theorem Std.less {N M : Nat → Prop} {a b : World} (h : Std N a b) (hM : ∀ j, M j → N j) : Std M a b := Off.mono h fun j hj => .inl fun e => hj (hM j e)
theorem Std.below {N : Nat → Prop} {w w' : World} {B : Nat} (h : Std N w w') (hB : B ≤ w.heap.size) (hN : ∀ j, j < B → N j) : Below B w w' := Off.below h (fun j hj => by
  rcases Nat.lt_or_ge j B with h1 | h1
  · exact absurd (hN j h1) hj
  · exact h1) hB
theorem Std.ens {N : Nat → Prop} {w w' : World} {v : Value} {L : List Ent} (h : Std N w w') (hE : Ens N w v L) : Ens N w' v L := hE.keep fun _ hp hl => h.cell hp hl
end Go.Proofs.Ytoekiencnbgmhaa
/-
  A server's log in memory: its box and its row of entries; its First, Last, Term, Fits, Newer.
  The conditions: its numbers are far from the end, its entries at most 200.
-/
set_option linter.unusedSimpArgs false
set_option linter.unusedVariables false
namespace Go.Proofs.Ytoekiencnbgmhaa
open Go.RowKit Go.Deep
set_option maxRecDepth 100000

def lcs13 (r : Lg) (v : Value) : List Value := [.int .i64 r.s.ix, .int .i64 r.s.st, .string r.s.conf, .string r.s.data, v]
structure LB (w : World) (g : Nat) (v : Value) (r : Lg) : Prop where
  box : Rt w g 72 (lcs13 r v)
  own : OwnEn 0 v r.L w
theorem LB.below {w w' : World} {g : Nat} {v : Value} {r : Lg} (h : LB w g v r) (hb : Below w.heap.size w w') : LB w' g v r := ⟨h.box.below hb, h.own.below hb⟩
theorem LB.parts {w : World} {g : Nat} {v : Value} {r : Lg} (h : LB w g v r) : ∃ A c, v = .slice A r.L.length c ∧ r.L.length ≤ c ∧ w.cell? ⟨g, 0, none⟩ = some (.int .i64 r.s.ix) ∧ w.cell? ⟨g, 1, none⟩ = some (.int .i64 r.s.st) ∧ w.cell? ⟨g, 2, none⟩ = some (.string r.s.conf) ∧ w.cell? ⟨g, 3, none⟩ = some (.string r.s.data) ∧ w.cell? ⟨g, 4, none⟩ = some (.slice A r.L.length c) := by
  obtain ⟨A, c, rfl, hc⟩ := (Ens.of_own h.own).slice
  exact ⟨A, c, rfl, hc, h.box.cell rfl, h.box.cell rfl, h.box.cell rfl, h.box.cell rfl, h.box.cell rfl⟩
theorem below_drewN13 (w : World) (n B : Nat) : Below B w (w.drewN n) := ⟨rfl, rfl, rfl, Nat.le_refl _, fun _ _ => rfl⟩
theorem below_id (w : World) : Below w.heap.size w w := Below.refl _ _
set_option maxHeartbeats 400000 in
theorem llast_any {w : World} {g : Nat} {v : Value} {r : Lg} (h : LB w g v r) (hk : Lok 1000000 r) :
    Calls Try.prog 38 #[.pointer (some ⟨g, 0, none⟩)] w fun e w' => e = .returned (.int .i64 (lst13 r)) ∧ Below w.heap.size w w' := by
  obtain ⟨A, c, rfl, hc, c0, c1, c2, c3, c4⟩ := h.parts
  obtain ⟨h0, h1, h2⟩ := hk.ends
  unfold lst13
  obtain ⟨n, hn⟩ : ∃ n, r.L.length = n := ⟨_, rfl⟩
  rw [hn] at h2 c4 hc ⊢
  obtain ⟨ix, hix⟩ : ∃ ix, r.s.ix = ix := ⟨_, rfl⟩
  rw [hix] at h0 h1 c0 ⊢
  clear h hk hn hix c1 c2 c3
  go_enter Try.func38, Try.ntmps38
  go_wp2
  go_quiet (fail)
  go_wp2
  go_ret
  exact ⟨rfl, ⟨rfl, rfl, rfl, Nat.le_refl _, fun _ _ => rfl⟩⟩
set_option maxHeartbeats 400000 in
theorem lfirst_any {w : World} {g : Nat} {v : Value} {r : Lg} (h : LB w g v r) (hk : Lok 1000000 r) :
    Calls Try.prog 37 #[.pointer (some ⟨g, 0, none⟩)] w fun e w' => e = .returned (.int .i64 (r.s.ix + 1)) ∧ Below w.heap.size w w' := by
  obtain ⟨A, c, rfl, hc, c0, c1, c2, c3, c4⟩ := h.parts
  obtain ⟨h0, h1, h2⟩ := hk.ends
  obtain ⟨ix, hix⟩ : ∃ ix, r.s.ix = ix := ⟨_, rfl⟩
  rw [hix] at h0 h1 c0 ⊢
  have hm : min ix 9223372036854775806 = ix := by omega
  clear h hk hix c1 c2 c3 c4
  go_enter Try.func37, Try.ntmps37
  go_wp2
  go_ret
  exact ⟨rfl, ⟨rfl, rfl, rfl, Nat.le_refl _, fun _ _ => rfl⟩⟩
set_option maxHeartbeats 400000 in
/-- the entries from i on: a part of the log's own row -/
theorem lfrom_any {w : World} {g : Nat} {v : Value} {r : Lg} (h : LB w g v r) (hk : Lok 1000000 r) (i : Int) :
    Calls Try.prog 51 #[.pointer (some ⟨g, 0, none⟩), .int .i64 i] w fun e w' => ∃ A c, e = .returned (.slice A (frm13 r i).length c) ∧ Ens (fun j => v.ownBlock = some j) w' (.slice A (frm13 r i).length c) (frm13 r i) ∧ Below w.heap.size w w' := by
  have hlast := fun W (hb : Below w.heap.size w W) => llast_any (h.below hb) hk
  have hE := Ens.of_own h.own
  obtain ⟨A, c, rfl, hc, c0, c1, c2, c3, c4⟩ := h.parts
  obtain ⟨h0, h1, h2⟩ := hk.ends
  have hg := h.box.lt
  by_cases hi : r.s.ix < i
  · by_cases hl : i ≤ lst13 r
    · have hat := at13 ⟨hi, hl⟩
      have hd := hE.drop (i - r.s.ix - 1).toNat (by omega)
      rw [frm13_in ⟨hi, hl⟩]
      obtain ⟨L, hL⟩ : ∃ L, r.L.drop (i - r.s.ix - 1).toNat = L := ⟨_, rfl⟩
      have hLl : L.length = r.L.length - (i - r.s.ix - 1).toNat := by rw [← hL, List.length_drop]
      rw [hL] at hd ⊢
      obtain ⟨k, hk2⟩ : ∃ k, (i - r.s.ix - 1).toNat = k := ⟨_, rfl⟩
      rw [hk2] at hat hd hLl
      have hik : i - r.s.ix - 1 = (k : Int) := by omega
      rw [if_neg (by omega)] at hd
      rw [hLl]
      obtain ⟨a, rfl⟩ : ∃ a, A = some ⟨a, 0, Option.none⟩ := by
        rcases h.own.2 with ⟨hv, _⟩ | ⟨g', c', cur, hv, _⟩
        · injection hv with e1 e2 e3
          omega
        · injection hv with e1
          exact ⟨g', e1⟩
      rw [add_lit_10, Nat.zero_add] at hd
      obtain ⟨n, hn⟩ : ∃ n, r.L.length = n := ⟨_, rfl⟩
      obtain ⟨ix, hix⟩ : ∃ ix, r.s.ix = ix := ⟨_, rfl⟩
      obtain ⟨lst, hlst⟩ : ∃ lst, lst13 r = lst := ⟨_, rfl⟩
      have hls2 : lst = ix + (n : Int) := by rw [← hlst, ← hix, ← hn]; rfl
      simp only [hlst] at hlast hl
      rw [hn] at c4 hat hd h2 hc ⊢
      rw [hix] at hi h0 h1 c0 hik
      have HD := Lib.hid hd
      have HL := Lib.hid hlast
      have HLL := Lib.hid hLl
      have HS := Lib.hid hls2
      have hkc : ¬ c = k := by omega
      clear h hk hn hix hlst hLl hd hE hlast c1 c2 c3 hL hk2 hls2
      go_enter Try.func51, Try.ntmps51
      go_wp2_with fail
      refine (HL.out _ (below_id _)).mono ?_
      rintro e w1 ⟨rfl, hb⟩
      have d0 := (hb.cell (p := ⟨g, 0, none⟩) hg).trans c0
      have d4 := (hb.cell (p := ⟨g, 4, none⟩) hg).trans c4
      go_wp2
      go_quiet (fail)
      go_wp2
      go_ret
      have hb2 := hb.trans (below_drewN13 w1 nq _)
      exact ⟨_, _, rfl, HD.out.below hb2, hb2⟩
    · have hf := frm13_out (r := r) (i := i) (by omega)
      rw [hf]
      obtain ⟨lst, hlst⟩ : ∃ lst, lst13 r = lst := ⟨_, rfl⟩
      simp only [hlst] at hlast hl
      obtain ⟨ix, hix⟩ : ∃ ix, r.s.ix = ix := ⟨_, rfl⟩
      rw [hix] at hi c0
      have HL := Lib.hid hlast
      clear h hk hlst hix hE hlast c1 c2 c3 hf
      go_enter Try.func51, Try.ntmps51
      go_wp2_with fail
      refine (HL.out _ (below_id _)).mono ?_
      rintro e w1 ⟨rfl, hb⟩
      go_wp2
      go_ret
      exact ⟨none, 0, rfl, Ens.nil _ _, hb⟩
  · have hf := frm13_out (r := r) (i := i) (by omega)
    rw [hf]
    obtain ⟨ix, hix⟩ : ∃ ix, r.s.ix = ix := ⟨_, rfl⟩
    rw [hix] at hi c0
    clear h hk hix hE hlast c1 c2 c3 hf
    go_enter Try.func51, Try.ntmps51
    go_wp2
    go_ret
    exact ⟨none, 0, rfl, Ens.nil _ _, Below.refl _ _⟩
theorem trm13_nil {r : Lg} {i : Int} (h : i ≠ r.s.ix) (hf : frm13 r i = []) : trm13 r i = (0, false) := by unfold trm13; rw [if_neg h, hf]
theorem trm13_cons {r : Lg} {i : Int} {x : Ent} {l : List Ent} (h : i ≠ r.s.ix) (hf : frm13 r i = x :: l) : trm13 r i = (x.et, true) := by unfold trm13; rw [if_neg h, hf]
set_option maxHeartbeats 400000 in
theorem lterm_any {w : World} {g : Nat} {v : Value} {r : Lg} (h : LB w g v r) (hk : Lok 1000000 r) (i t : Int) (b : Bool) (ht : trm13 r i = (t, b)) :
    Calls Try.prog 17 #[.pointer (some ⟨g, 0, none⟩), .int .i64 i] w fun e w' => e = .returned (.tuple #[.int .i64 t, .bool b]) ∧ Below w.heap.size w w' := by
  have hfrom := lfrom_any h hk i
  obtain ⟨A, c, rfl, hc, c0, c1, c2, c3, c4⟩ := h.parts
  obtain ⟨st, hst⟩ : ∃ st, r.s.st = st := ⟨_, rfl⟩
  obtain ⟨ix, hix⟩ : ∃ ix, r.s.ix = ix := ⟨_, rfl⟩
  by_cases hi : i = r.s.ix
  · have ht2 := trm13_own r
    rw [← hi, ht] at ht2
    injection ht2 with e1 e2
    subst e2
    rw [hst] at e1 c1
    rw [hix] at hi c0
    subst e1; subst hi
    clear h hk hix hst hfrom c2 c3 c4 ht
    go_enter Try.func17, Try.ntmps17
    go_wp2
    go_ret2
    exact ⟨rfl, Below.refl _ _⟩
  · have hn := fun hf => trm13_nil (r := r) hi hf
    have hx := fun (x : Ent) (l : List Ent) hf => trm13_cons (r := r) (x := x) (l := l) hi hf
    rw [ht] at hn hx
    obtain ⟨f, hf⟩ : ∃ f, frm13 r i = f := ⟨_, rfl⟩
    rw [hf] at hfrom hn hx
    rw [hix] at hi c0
    have HF := Lib.hid hfrom
    cases f with
    | nil =>
      have hn := hn rfl
      injection hn with e1 e2
      subst e1; subst e2
      clear h hk hix hst hfrom hx ht hf c1 c2 c3 c4
      go_enter Try.func17, Try.ntmps17
      go_wp2_with fail
      refine HF.out.mono ?_
      rintro e w1 ⟨A1, c1, rfl, hE, hb⟩
      clear hE
      go_wp2
      go_ret2
      exact ⟨rfl, hb⟩
    | cons x l =>
      have hx := hx x l rfl
      injection hx with e1 e2
      subst e1; subst e2
      clear h hk hix hst hfrom hn ht hf c1 c2 c3 c4
      go_enter Try.func17, Try.ntmps17
      go_wp2_with fail
      refine HF.out.mono ?_
      rintro e w1 ⟨A1, c1, rfl, hE, hb⟩
      obtain ⟨xi, xt, xk, xd⟩ := x
      obtain ⟨a, o, rfl, hg, b0, b1, b2, b3⟩ := hE.four 0 (by simp) rfl
      obtain ⟨m, hm⟩ : ∃ m, (List.cons ⟨xi, xt, xk, xd⟩ l : List Ent).length = m := ⟨_, rfl⟩
      have hm0 : 0 < m := by rw [← hm]; simp
      rw [hm]
      simp only [Nat.zero_mul, Nat.add_zero] at b0 b1 b2 b3
      clear hE hm
      go_wp2
      go_ret2
      exact ⟨rfl, hb⟩
set_option maxHeartbeats 400000 in
theorem lfits_any {w : World} {g : Nat} {v : Value} {r : Lg} (h : LB w g v r) (hk : Lok 1000000 r) (i t : Int) (b : Bool) (hb : fts13 r i t = b) :
    Calls Try.prog 19 #[.pointer (some ⟨g, 0, none⟩), .int .i64 i, .int .i64 t] w fun e w' => e = .returned (.bool b) ∧ Below w.heap.size w w' := by
  obtain ⟨⟨x, y⟩, hxy⟩ : ∃ p, trm13 r i = p := ⟨_, rfl⟩
  have HT := Lib.hid (lterm_any h hk i x y hxy)
  unfold fts13 at hb
  rw [hxy] at hb
  have hb : (y && x == t) = b := hb
  clear h hk hxy
  go_enter Try.func19, Try.ntmps19
  go_wp2_with fail
  refine HT.out.mono ?_
  rintro e w1 ⟨rfl, hb1⟩
  cases y with
  | false =>
    subst hb
    go_wp2
    go_ret
    exact ⟨rfl, hb1⟩
  | true =>
    subst hb
    go_wp2
    go_ret
    exact ⟨by simp, hb1⟩
set_option maxHeartbeats 400000 in
theorem lnewer_any {w : World} {g : Nat} {v : Value} {r : Lg} (h : LB w g v r) (hk : Lok 1000000 r) (i t : Int) (b : Bool) (hb : nwr13 r i t = b) :
    Calls Try.prog 21 #[.pointer (some ⟨g, 0, none⟩), .int .i64 i, .int .i64 t] w fun e w' => e = .returned (.bool b) ∧ Below w.heap.size w w' := by
  obtain ⟨⟨x, y⟩, hxy⟩ : ∃ p, trm13 r (lst13 r) = p := ⟨_, rfl⟩
  have hT := fun W (hb : Below w.heap.size w W) => lterm_any (h.below hb) hk _ x y hxy
  have hL := llast_any h hk
  unfold nwr13 at hb
  rw [hxy] at hb
  obtain ⟨l, hl⟩ : ∃ l, lst13 r = l := ⟨_, rfl⟩
  rw [hl] at hL hb
  simp only [hl] at hT
  have HT := Lib.hid hT
  have HL := Lib.hid hL
  clear h hk hxy hT hL hl
  have hb : (decide (x < t) || (t == x && decide (l ≤ i))) = b := hb
  go_enter Try.func21, Try.ntmps21
  go_wp2_with fail
  refine HL.out.mono ?_
  rintro e w1 ⟨rfl, hb1⟩
  go_wp2_with fail
  refine (HT.out w1 hb1).mono ?_
  rintro e w2 ⟨rfl, hb2⟩
  have hb3 := hb1.trans (hb2.mono hb1.size)
  subst hb
  go_wp2
  all_goals go_ret
  all_goals exact ⟨by simp_all, hb3⟩
set_option maxHeartbeats 400000 in
theorem lgap_any {w : World} {g : Nat} {v : Value} {r : Lg} (h : LB w g v r) (hk : Lok 1000000 r) (i : Int) (hi : -9223372036854775808 ≤ i ∧ i ≤ 9223372036854775807) (b : Bool) (hb : decide (lst13 r + 1 < i) = b) :
    Calls Try.prog 44 #[.pointer (some ⟨g, 0, none⟩), .int .i64 i] w fun e w' => e = .returned (.bool b) ∧ Below w.heap.size w w' := by
  have HL := Lib.hid (llast_any h hk)
  have h0 : 0 ≤ lst13 r := by unfold lst13; have := hk.1; omega
  obtain ⟨l, hl⟩ : ∃ l, lst13 r = l := ⟨_, rfl⟩
  rw [hl] at HL h0 hb
  clear h hk hl
  go_enter Try.func44, Try.ntmps44
  go_wp2_with fail
  refine HL.out.mono ?_
  rintro e w1 ⟨rfl, hb1⟩
  subst hb
  by_cases h1 : l < i
  · go_wp2
    go_ret
    have hd : decide (l + 1 < i) = decide (l < i - 1) := by rw [decide_eq_decide]; omega
    rw [hd]
    exact ⟨rfl, hb1⟩
  · go_wp2
    go_ret
    exact ⟨by simp; omega, hb1⟩
end Go.Proofs.Ytoekiencnbgmhaa
/-
  Package rlog's follow and mayNumber: entries one behind the other; a number that may be.
  The conditions: 1,000 entries at most.
-/
set_option linter.unusedSimpArgs false
set_option linter.unusedVariables false
namespace Go.Proofs.Ytoekiencnbgmhaa
open Go.RowKit Go.Deep
set_option maxRecDepth 100000

theorem lmay_any (n : Int) (b : Bool) (hb : (decide (0 ≤ n) && decide (n ≤ 1099511627776)) = b) (w : World) :
    Calls Try.prog 40 #[.int .i64 n] w fun e w' => e = .returned (.bool b) ∧ Below w.heap.size w w' := by
  subst hb
  go_enter Try.func40, Try.ntmps40
  by_cases h0 : 0 ≤ n
  · go_wp2
    all_goals go_ret
    all_goals exact ⟨by simp [h0], Below.refl _ _⟩
  · go_wp2
    all_goals go_ret
    all_goals exact ⟨by rw [show decide (0 ≤ n) = false from decide_eq_false (by omega)]; rfl, Below.refl _ _⟩
theorem flw13_drop {L : List Ent} {k : Nat} (h : k < L.length) (i t : Int) : flw13 i t (L.drop k) = ((L[k].ix == i + 1 && decide (t ≤ L[k].et)) && flw13 L[k].ix L[k].et (L.drop (k + 1))) := by
  rw [List.drop_eq_getElem_cons h]; rfl
set_option maxHeartbeats 400000 in
theorem lfollow_any (N : Nat → Prop) (A : Option Addr) (n c : Nat) (L : List Ent) (i0 t0 : Int) (w : World) (h : Ens N w (.slice A n c) L) (hl : L.length ≤ 1000) (hi0 : -9223372036854775808 ≤ i0 ∧ i0 ≤ 9223372036854775807) (hd : ∀ e ∈ L, -9223372036854775808 ≤ e.ix ∧ e.ix ≤ 9223372036854775807) (b : Bool) (hb : flw13 i0 t0 L = b) :
    Calls Try.prog 41 #[.int .i64 i0, .int .i64 t0, .slice A n c] w fun e w' => e = .returned (.bool b) ∧ Below w.heap.size w w' := by
  have hnL : n = L.length := h.len.1
  have HE := Lib.hid h
  have HD := Lib.hid hd
  have HN := Lib.hid hnL
  have HB := Lib.hid hb
  have hn4 : n ≤ 1000 := by omega
  clear h hd hnL hb
  go_enter Try.func41, Try.ntmps41
  go_wp2_with fail
  go_loopw [0, 1, 11] (fun u v i wr => ∃ (x y : Int) (k : Nat), u = .int .i64 x ∧ v = .int .i64 y ∧ i = .int .i64 k ∧ k ≤ n ∧ (-9223372036854775808 ≤ x ∧ x ≤ 9223372036854775807) ∧ flw13 x y (L.drop k) = b ∧ Below w.heap.size w wr) (fun _ _ i _ => n - (intOf i).toNat)
  case atStart => exact ⟨i0, t0, 0, rfl, rfl, rfl, Nat.zero_le _, hi0, HB.out, Below.refl _ _⟩
  case round =>
    obtain ⟨x, y, k, rfl, rfl, rfl, hk, hxb, hf, hbw⟩ := hrel
    clear hi0
    by_cases hkn : k < n
    · have hkL : k < L.length := by rw [← HN.out]; exact hkn
      have hki : (k : Int) < (n : Int) := by omega
      obtain ⟨⟨xk, yk, zk, dk⟩, hxk⟩ : ∃ x, L[k] = x := ⟨_, rfl⟩
      have hxb2 := HD.out _ (List.getElem_mem hkL)
      obtain ⟨g, o, rfl, hg, b0, b1, b2, b3⟩ := (HE.out.below hbw).four k hkL hxk
      rw [flw13_drop hkL] at hf
      rw [hxk] at hf hxb2
      simp only at hf hxb2
      by_cases h1 : x = 9223372036854775807
      · have hbf : b = false := by
          rw [← hf, show (xk == x + 1) = false by rw [beq_eq_false_iff_ne]; omega]; rfl
        subst hbf
        clear hf hxk
        go_wp2
        go_ret
        exact ⟨rfl, hbw.alloc hbw.size _⟩
      · have hw1 : IntKind.i64.wrap (x + 1) = x + 1 := by rw [IntKind.wrap_i64]; omega
        by_cases h2 : xk = x + 1
        · by_cases h3 : yk < y
          · have hbf : b = false := by
              rw [← hf, show decide (y ≤ yk) = false from decide_eq_false (by omega), Bool.and_false, Bool.false_and]
            subst hbf
            clear hf hxk
            go_wp2
            go_ret
            exact ⟨rfl, hbw.alloc hbw.size _⟩
          · rw [show (xk == x + 1) = true by simpa using h2, show decide (y ≤ yk) = true from decide_eq_true (by omega), Bool.true_and, Bool.true_and] at hf
            have HF := Lib.hid hf
            clear hf hxk
            go_wp2
            go_quiet (fail)
            go_wp2
            go_roundw
            case rel => exact ⟨xk, yk, k + 1, by go_num, by go_num, by go_num, by omega, hxb2, HF.out, (hbw.alloc hbw.size _).trans (below_drewN13 _ _ _)⟩
            case measure => first | (simp [intOf]; omega) | (simp [intOf]; done)
        · have hbf : b = false := by
            rw [← hf, show (xk == x + 1) = false by simpa using h2]; rfl
          subst hbf
          clear hf hxk
          go_wp2
          go_ret
          exact ⟨rfl, hbw.alloc hbw.size _⟩
    · have hkn2 : k = n := by omega
      subst hkn2
      have hbt : b = true := by
        rw [← hf, List.drop_of_length_le (by rw [← HN.out]; exact Nat.le_refl _)]; rfl
      subst hbt
      clear hf
      go_wp2
      go_ret
      exact ⟨rfl, hbw⟩
end Go.Proofs.Ytoekiencnbgmhaa
/-
  Package rlog's lacks: is an entry neither there nor one that the snapshot stands for.
  There are no conditions beyond those of its log.
-/
set_option linter.unusedSimpArgs false
set_option linter.unusedVariables false
namespace Go.Proofs.Ytoekiencnbgmhaa
open Go.RowKit Go.Deep
set_option maxRecDepth 100000

set_option maxHeartbeats 400000 in
theorem llacks_any {w : World} {g : Nat} {v : Value} {r : Lg} (h : LB w g v r) (hk : Lok 1000000 r) (x : Ent) (b : Bool) (hb : lck13 r x = b) :
    Calls Try.prog 46 #[.pointer (some ⟨g, 0, none⟩), x.val] w fun e w' => e = .returned (.bool b) ∧ Below w.heap.size w w' := by
  obtain ⟨xi, xt, xk, xd⟩ := x
  obtain ⟨y, hy⟩ : ∃ y, fts13 r xi xt = y := ⟨_, rfl⟩
  have HF := Lib.hid fun W (hb : Below w.heap.size w W) => lfits_any (h.below hb) hk xi xt y hy
  obtain ⟨A, c, rfl, hc, c0, c1, c2, c3, c4⟩ := h.parts
  obtain ⟨ix, hix⟩ : ∃ ix, r.s.ix = ix := ⟨_, rfl⟩
  have hb : (decide (ix < xi) && !y) = b := by rw [← hb, ← hy, ← hix]; rfl
  have hg := h.box.lt
  rw [hix] at c0
  clear h hk hy hix c1 c2 c3 c4
  obtain ⟨b, hb0⟩ : ∃ b, w.heap.size = b := ⟨_, rfl⟩
  obtain ⟨W0, hW0⟩ : ∃ W0, w.alloc (.cells #[.int .i64 xi, .int .i64 xt, .int .i64 xk, .string xd] 65) = W0 := ⟨_, rfl⟩
  have hx : Rt W0 b 65 [.int .i64 xi, .int .i64 xt, .int .i64 xk, .string xd] := by rw [← hW0, ← hb0]; exact Rt.new _ _ _
  have hb1 : Below w.heap.size w W0 := by rw [← hW0]; exact below_new _ _
  have c0' := (hb1.cell (p := ⟨g, 0, none⟩) hg).trans c0
  have d0 := hx.cell (j := 0) rfl
  have d1 := hx.cell (j := 1) rfl
  clear c0
  show Calls _ _ #[_, .agg #[.int .i64 xi, .int .i64 xt, .int .i64 xk, .string xd]] w _
  go_enter Try.func46, Try.ntmps46
  subst hb
  by_cases h1 : ix < xi
  · go_wp2_with fail
    have hb1 : Below w.heap.size w W0.drew := hb1.drew
    replace d0 : W0.drew.cell? ⟨b, 0, none⟩ = _ := d0
    replace d1 : W0.drew.cell? ⟨b, 1, none⟩ = _ := d1
    replace c0' : W0.drew.cell? ⟨g, 0, none⟩ = _ := c0'
    have hbl : b < W0.drew.heap.size := hx.lt
    have hgl : g < W0.drew.heap.size := Nat.lt_of_lt_of_le hg hb1.size
    refine wp_region_noPanic ?_
    refine wp_region_held_drew (S := fun W => W.cell? ⟨b, 0, none⟩ = some (.int .i64 xi) ∧ W.cell? ⟨b, 1, none⟩ = some (.int .i64 xt) ∧ W.cell? ⟨g, 0, none⟩ = some (.int .i64 ix)) (by kernel_rfl) ?_ (fun hHeld => ?_)
    · exact ⟨d0, d1, c0'⟩
    generalize W0.drew = k5 at *
    refine tkH 0 (.pointer (some ⟨b, 0, none⟩)) rfl (fun w hSw => ?_) ?_
    · (try dsimp only at hSw)
      obtain ⟨q0, q1, q2⟩ := hSw
      go_simp
    try simp only [Act.put, List.setIfInBounds_toArray, List.set_cons_zero, List.set_cons_succ]
    refine tkH 1 (.int .i64 xi) rfl (fun w hSw => ?_) ?_
    · (try dsimp only at hSw)
      obtain ⟨q0, q1, q2⟩ := hSw
      go_simp
    try simp only [Act.put, List.setIfInBounds_toArray, List.set_cons_zero, List.set_cons_succ]
    refine tkH 2 (.pointer (some ⟨g, 0, none⟩)) rfl (fun w hSw => ?_) ?_
    · (try dsimp only at hSw)
      obtain ⟨q0, q1, q2⟩ := hSw
      go_simp
    try simp only [Act.put, List.setIfInBounds_toArray, List.set_cons_zero, List.set_cons_succ]
    refine tkH 3 (.pointer (some ⟨g, 0, none⟩)) rfl (fun w hSw => ?_) ?_
    · (try dsimp only at hSw)
      obtain ⟨q0, q1, q2⟩ := hSw
      go_simp
    try simp only [Act.put, List.setIfInBounds_toArray, List.set_cons_zero, List.set_cons_succ]
    refine tkH 4 (.pointer (some ⟨g, 0, none⟩)) rfl (fun w hSw => ?_) ?_
    · (try dsimp only at hSw)
      obtain ⟨q0, q1, q2⟩ := hSw
      go_simp
    try simp only [Act.put, List.setIfInBounds_toArray, List.set_cons_zero, List.set_cons_succ]
    refine tkH 5 (.pointer (some ⟨g, 0, none⟩)) rfl (fun w hSw => ?_) ?_
    · (try dsimp only at hSw)
      obtain ⟨q0, q1, q2⟩ := hSw
      go_simp
    try simp only [Act.put, List.setIfInBounds_toArray, List.set_cons_zero, List.set_cons_succ]
    refine tkH 6 (.int .i64 ix) rfl (fun w hSw => ?_) ?_
    · (try dsimp only at hSw)
      obtain ⟨q0, q1, q2⟩ := hSw
      go_simp
    try simp only [Act.put, List.setIfInBounds_toArray, List.set_cons_zero, List.set_cons_succ]
    refine tkH 7 (.bool true) rfl (fun w hSw => ?_) ?_
    · (try dsimp only at hSw)
      obtain ⟨q0, q1, q2⟩ := hSw
      go_simp
    try simp only [Act.put, List.setIfInBounds_toArray, List.set_cons_zero, List.set_cons_succ]
    refine tkH 8 (.bool true) rfl (fun w hSw => ?_) ?_
    · (try dsimp only at hSw)
      obtain ⟨q0, q1, q2⟩ := hSw
      go_simp
    try simp only [Act.put, List.setIfInBounds_toArray, List.set_cons_zero, List.set_cons_succ]
    refine tkH 9 (.pointer (some ⟨g, 0, none⟩)) rfl (fun w hSw => ?_) ?_
    · (try dsimp only at hSw)
      obtain ⟨q0, q1, q2⟩ := hSw
      go_simp
    try simp only [Act.put, List.setIfInBounds_toArray, List.set_cons_zero, List.set_cons_succ]
    refine tkH 10 (.pointer (some ⟨b, 0, none⟩)) rfl (fun w hSw => ?_) ?_
    · (try dsimp only at hSw)
      obtain ⟨q0, q1, q2⟩ := hSw
      go_simp
    try simp only [Act.put, List.setIfInBounds_toArray, List.set_cons_zero, List.set_cons_succ]
    refine tkH 11 (.int .i64 xi) rfl (fun w hSw => ?_) ?_
    · (try dsimp only at hSw)
      obtain ⟨q0, q1, q2⟩ := hSw
      go_simp
    try simp only [Act.put, List.setIfInBounds_toArray, List.set_cons_zero, List.set_cons_succ]
    refine tkH 12 (.pointer (some ⟨b, 1, none⟩)) rfl (fun w hSw => ?_) ?_
    · (try dsimp only at hSw)
      obtain ⟨q0, q1, q2⟩ := hSw
      go_simp
    try simp only [Act.put, List.setIfInBounds_toArray, List.set_cons_zero, List.set_cons_succ]
    refine tkH 13 (.int .i64 xt) rfl (fun w hSw => ?_) ?_
    · (try dsimp only at hSw)
      obtain ⟨q0, q1, q2⟩ := hSw
      go_simp
    try simp only [Act.put, List.setIfInBounds_toArray, List.set_cons_zero, List.set_cons_succ]
    refine stH 14 rfl (fun K hK => ?_)
    go_simp
    go_at_call 19
    refine (HF.out _ hb1).mono ?_
    rintro e k9 ⟨rfl, hb2⟩
    replace d0 := (hb2.cell (p := ⟨b, 0, none⟩) hbl).trans d0
    replace d1 := (hb2.cell (p := ⟨b, 1, none⟩) hbl).trans d1
    replace c0' := (hb2.cell (p := ⟨g, 0, none⟩) hgl).trans c0'
    replace hb1 := hb1.trans (hb2.mono hb1.size)
    refine hK.out _ _ ?_ (fun hHeld => ?_)
    · exact ⟨d0, d1, c0'⟩
    clear hK K
    try simp only [Act.put, List.setIfInBounds_toArray, List.set_cons_zero, List.set_cons_succ]
    refine tkH 15 (.bool (!y)) rfl (fun w hSw => ?_) ?_
    · (try dsimp only at hSw)
      obtain ⟨q0, q1, q2⟩ := hSw
      go_simp
    try simp only [Act.put, List.setIfInBounds_toArray, List.set_cons_zero, List.set_cons_succ]
    refine tkH 16 (.bool (!y)) rfl (fun w hSw => ?_) ?_
    · (try dsimp only at hSw)
      obtain ⟨q0, q1, q2⟩ := hSw
      go_simp
    try simp only [Act.put, List.setIfInBounds_toArray, List.set_cons_zero, List.set_cons_succ]
    refine tkH 17 (.bool (!y)) rfl (fun w hSw => ?_) ?_
    · (try dsimp only at hSw)
      obtain ⟨q0, q1, q2⟩ := hSw
      go_simp
    try simp only [Act.put, List.setIfInBounds_toArray, List.set_cons_zero, List.set_cons_succ]
    refine wpAnyH_done (by kernel_rfl) ?_ _
    refine NoPanic.normal ?_
    go_wp2
    go_ret
    exact ⟨by simp [h1], hb1⟩
  · go_wp2_with fail
    have hb1 : Below w.heap.size w W0.drew := hb1.drew
    replace d0 : W0.drew.cell? ⟨b, 0, none⟩ = _ := d0
    replace d1 : W0.drew.cell? ⟨b, 1, none⟩ = _ := d1
    replace c0' : W0.drew.cell? ⟨g, 0, none⟩ = _ := c0'
    have hbl : b < W0.drew.heap.size := hx.lt
    have hgl : g < W0.drew.heap.size := Nat.lt_of_lt_of_le hg hb1.size
    refine wp_region_noPanic ?_
    refine wp_region_held_drew (S := fun W => W.cell? ⟨b, 0, none⟩ = some (.int .i64 xi) ∧ W.cell? ⟨b, 1, none⟩ = some (.int .i64 xt) ∧ W.cell? ⟨g, 0, none⟩ = some (.int .i64 ix)) (by kernel_rfl) ?_ (fun hHeld => ?_)
    · exact ⟨d0, d1, c0'⟩
    generalize W0.drew = k5 at *
    refine tkH 0 (.pointer (some ⟨b, 0, none⟩)) rfl (fun w hSw => ?_) ?_
    · (try dsimp only at hSw)
      obtain ⟨q0, q1, q2⟩ := hSw
      go_simp
    try simp only [Act.put, List.setIfInBounds_toArray, List.set_cons_zero, List.set_cons_succ]
    refine tkH 1 (.int .i64 xi) rfl (fun w hSw => ?_) ?_
    · (try dsimp only at hSw)
      obtain ⟨q0, q1, q2⟩ := hSw
      go_simp
    try simp only [Act.put, List.setIfInBounds_toArray, List.set_cons_zero, List.set_cons_succ]
    refine tkH 2 (.pointer (some ⟨g, 0, none⟩)) rfl (fun w hSw => ?_) ?_
    · (try dsimp only at hSw)
      obtain ⟨q0, q1, q2⟩ := hSw
      go_simp
    try simp only [Act.put, List.setIfInBounds_toArray, List.set_cons_zero, List.set_cons_succ]
    refine tkH 3 (.pointer (some ⟨g, 0, none⟩)) rfl (fun w hSw => ?_) ?_
    · (try dsimp only at hSw)
      obtain ⟨q0, q1, q2⟩ := hSw
      go_simp
    try simp only [Act.put, List.setIfInBounds_toArray, List.set_cons_zero, List.set_cons_succ]
    refine tkH 4 (.pointer (some ⟨g, 0, none⟩)) rfl (fun w hSw => ?_) ?_
    · (try dsimp only at hSw)
      obtain ⟨q0, q1, q2⟩ := hSw
      go_simp
    try simp only [Act.put, List.setIfInBounds_toArray, List.set_cons_zero, List.set_cons_succ]
    refine tkH 5 (.pointer (some ⟨g, 0, none⟩)) rfl (fun w hSw => ?_) ?_
    · (try dsimp only at hSw)
      obtain ⟨q0, q1, q2⟩ := hSw
      go_simp
    try simp only [Act.put, List.setIfInBounds_toArray, List.set_cons_zero, List.set_cons_succ]
    refine tkH 6 (.int .i64 ix) rfl (fun w hSw => ?_) ?_
    · (try dsimp only at hSw)
      obtain ⟨q0, q1, q2⟩ := hSw
      go_simp
    try simp only [Act.put, List.setIfInBounds_toArray, List.set_cons_zero, List.set_cons_succ]
    refine tkH 7 (.bool false) rfl (fun w hSw => ?_) ?_
    · (try dsimp only at hSw)
      obtain ⟨q0, q1, q2⟩ := hSw
      go_simp
    try simp only [Act.put, List.setIfInBounds_toArray, List.set_cons_zero, List.set_cons_succ]
    refine tkH 8 (.bool false) rfl (fun w hSw => ?_) ?_
    · (try dsimp only at hSw)
      obtain ⟨q0, q1, q2⟩ := hSw
      go_simp
    try simp only [Act.put, List.setIfInBounds_toArray, List.set_cons_zero, List.set_cons_succ]
    refine skH 9 rfl ?_
    try simp only [Act.put, List.setIfInBounds_toArray, List.set_cons_zero, List.set_cons_succ]
    refine skH 10 rfl ?_
    try simp only [Act.put, List.setIfInBounds_toArray, List.set_cons_zero, List.set_cons_succ]
    refine skH 11 rfl ?_
    try simp only [Act.put, List.setIfInBounds_toArray, List.set_cons_zero, List.set_cons_succ]
    refine skH 12 rfl ?_
    try simp only [Act.put, List.setIfInBounds_toArray, List.set_cons_zero, List.set_cons_succ]
    refine skH 13 rfl ?_
    try simp only [Act.put, List.setIfInBounds_toArray, List.set_cons_zero, List.set_cons_succ]
    refine skH 14 rfl ?_
    try simp only [Act.put, List.setIfInBounds_toArray, List.set_cons_zero, List.set_cons_succ]
    refine skH 15 rfl ?_
    try simp only [Act.put, List.setIfInBounds_toArray, List.set_cons_zero, List.set_cons_succ]
    refine tkH 16 (.bool false) rfl (fun w hSw => ?_) ?_
    · (try dsimp only at hSw)
      obtain ⟨q0, q1, q2⟩ := hSw
      go_simp
    try simp only [Act.put, List.setIfInBounds_toArray, List.set_cons_zero, List.set_cons_succ]
    refine tkH 17 (.bool false) rfl (fun w hSw => ?_) ?_
    · (try dsimp only at hSw)
      obtain ⟨q0, q1, q2⟩ := hSw
      go_simp
    try simp only [Act.put, List.setIfInBounds_toArray, List.set_cons_zero, List.set_cons_succ]
    refine wpAnyH_done (by kernel_rfl) ?_ _
    refine NoPanic.normal ?_
    go_wp2
    go_ret
    exact ⟨by rw [show decide (ix < xi) = false from decide_eq_false (by omega)]; rfl, hb1⟩
end Go.Proofs.Ytoekiencnbgmhaa
/-
  Package rlog's New, Snap, Get, Set.
  The conditions: a row has at most 1,000 entries, texts at most 100,000 bytes.
-/
set_option linter.unusedSimpArgs false
set_option linter.unusedVariables false
namespace Go.Proofs.Ytoekiencnbgmhaa
open Go.RowKit Go.Deep
set_option maxRecDepth 100000

/-- a log none of whose blocks is one of N -/
def LK (N : Nat → Prop) (m : Nat) (w : World) (g : Nat) (r : Lg) : Prop := Lok m r ∧ (∃ v, LB w g v r ∧ ∀ j, v.ownBlock = some j → ¬ N j) ∧ ¬ N g ∧ ∀ j, N j → j < w.heap.size
theorem log_ne_entry : (72 : TypeId) ≠ 65 := by decide
theorem LB.ne {w : World} {g : Nat} {v : Value} {r : Lg} (h : LB w g v r) : v.ownBlock ≠ some g := own_ne11 log_ne_entry h.box h.own
theorem LK.others {N : Nat → Prop} {m : Nat} {w w' : World} {g : Nat} {r : Lg} (h : LK N m w g r) (hb : Below w.heap.size w w') : LK (fun j => N j ∨ (w.heap.size ≤ j ∧ j < w'.heap.size)) m w' g r := by
  obtain ⟨h1, ⟨v, h2, h3⟩, h4, h5⟩ := h
  refine ⟨h1, ⟨v, h2.below hb, fun j hj hn => ?_⟩, fun hn => ?_, fun j hj => ?_⟩
  · rcases hn with hn | hn
    · exact h3 j hj hn
    · have := (h2.own.lt j hj).2; omega
  · rcases hn with hn | hn
    · exact h4 hn
    · have := h2.box.lt; omega
  · rcases hj with hj | hj
    · exact Nat.lt_of_lt_of_le (h5 j hj) hb.size
    · exact hj.2
theorem LK.below {N : Nat → Prop} {m : Nat} {w w' : World} {g : Nat} {r : Lg} (h : LK N m w g r) (hb : Below w.heap.size w w') : LK N m w' g r := by
  obtain ⟨h1, ⟨v, h2, h3⟩, h4, h5⟩ := h
  exact ⟨h1, ⟨v, h2.below hb, h3⟩, h4, fun j hj => Nat.lt_of_lt_of_le (h5 j hj) hb.size⟩
theorem LK.less {N M : Nat → Prop} {m : Nat} {w : World} {g : Nat} {r : Lg} (h : LK N m w g r) (hM : ∀ j, M j → N j) : LK M m w g r := by
  obtain ⟨h1, ⟨v, h2, h3⟩, h4, h5⟩ := h
  exact ⟨h1, ⟨v, h2, fun j hj hm => h3 j hj (hM j hm)⟩, fun hm => h4 (hM g hm), fun j hj => h5 j (hM j hj)⟩
theorem LK.more {N : Nat → Prop} {m n : Nat} {w : World} {g : Nat} {r : Lg} (h : LK N m w g r) (hn : m ≤ n) : LK N n w g r := ⟨h.1.more hn, h.2⟩
/-- what is written into a block of N leaves a log alone -/
theorem LK.set {N : Nat → Prop} {m : Nat} {w : World} {g : Nat} {r : Lg} (h : LK N m w g r) {p : Addr} (u : Value) (hp : N p.block) (hsp : p.spot = none) : LK N m (w.setCell p u) g r := by
  obtain ⟨h1, ⟨v, h2, h3⟩, h4, h5⟩ := h
  obtain ⟨pb, po, ps⟩ := p
  simp only at hsp hp
  subst hsp
  have ho : Off (fun j => j = pb) w (w.setCell ⟨pb, po, none⟩ u) := (Off.refl _ w).set (.inl rfl)
  exact ⟨h1, ⟨v, ⟨(ho.block g h2.box.lt (fun e => h4 (by rw [e]; exact hp))).trans h2.box, h2.own.off ho (fun j hj e => h3 j hj (by rw [e]; exact hp))⟩, h3⟩, h4, fun j hj => Nat.lt_of_lt_of_le (h5 j hj) ho.size⟩
theorem LK.get {N : Nat → Prop} {m : Nat} {w : World} {g : Nat} {r : Lg} (h : LK N m w g r) (hm : m ≤ 1000000) : ∃ v, LB w g v r ∧ Lok 1000000 r := by
  obtain ⟨h1, ⟨v, h2, _⟩, _⟩ := h
  exact ⟨v, h2, h1.more hm⟩
set_option maxHeartbeats 1000000 in
theorem lnew_any (N : Nat → Prop) (s : Snp) (A : Option Addr) (n c : Nat) (L : List Ent) (w : World) (hE : Ens N w (.slice A n c) L) (hl : L.length ≤ 1000) (hix : -9223372036854775808 ≤ s.ix ∧ s.ix ≤ 9223372036854775807) (hd : ∀ e ∈ L, e.data.size ≤ 100000 ∧ -9223372036854775808 ≤ e.ix ∧ e.ix ≤ 9223372036854775807) (h1 : s.conf.size ≤ 100000) (h2 : s.data.size ≤ 100000) (b : Bool) (hb : new13 s L = b) :
    Calls Try.prog 10 #[s.val, .slice A n c] w fun e w' => Below w.heap.size w w' ∧ ((b = false ∧ e = .returned (.pointer none)) ∨ (b = true ∧ ∃ g v, e = .returned (.pointer (some ⟨g, 0, none⟩)) ∧ w.heap.size ≤ g ∧ OwnEn w.heap.size v L w' ∧ LB w' g v ⟨s, L⟩)) := by
  obtain ⟨ix, st, cf, dt⟩ := s
  simp only at hix h1 h2
  have hnL : n = L.length := hE.len.1
  have HM1 := Lib.hid fun b hb w => lmay_any ix b hb w
  have HM2 := Lib.hid fun b hb w => lmay_any st b hb w
  have HF := Lib.hid fun W (hb : Below w.heap.size w W) b (hq : flw13 ix st L = b) => lfollow_any N A n c L ix st W (hE.below hb) hl hix (fun e he => (hd e he).2) b hq
  have HCE := Lib.hid fun W (hb : Below w.heap.size w W) => lcopyE_any N A n c L W (hE.below hb) (by omega) (fun e he => Nat.le_trans (hd e he).1 (by decide))
  have HCS := Lib.hid fun W => lcopyS_any ix st cf dt W (by omega) (by omega)
  obtain ⟨m1, hm1⟩ : ∃ m1, (decide (0 ≤ ix) && decide (ix ≤ 1099511627776)) = m1 := ⟨_, rfl⟩
  obtain ⟨m2, hm2⟩ : ∃ m2, (decide (0 ≤ st) && decide (st ≤ 1099511627776)) = m2 := ⟨_, rfl⟩
  obtain ⟨m3, hm3⟩ : ∃ m3, flw13 ix st L = m3 := ⟨_, rfl⟩
  have hb : (m1 && m2 && decide (n ≤ 200) && m3) = b := by rw [← hb, ← hm1, ← hm2, ← hm3, hnL]; rfl
  have HM1 := HM1.out _ hm1
  have HM2 := HM2.out _ hm2
  have HF := Lib.hid fun W hb => HF.out W hb _ hm3
  have HN := Lib.hid hnL
  have hn4 : n ≤ 1000 := by omega
  clear hE hd hnL hix hm1 hm2 hm3
  obtain ⟨b0, hb0⟩ : ∃ b0, w.heap.size = b0 := ⟨_, rfl⟩
  obtain ⟨W0, hW0⟩ : ∃ W0, w.alloc (.cells #[.int .i64 ix, .int .i64 st, .string cf, .string dt] 23) = W0 := ⟨_, rfl⟩
  have hx : Rt W0 b0 23 [.int .i64 ix, .int .i64 st, .string cf, .string dt] := by rw [← hW0, ← hb0]; exact Rt.new _ _ _
  have hB : Below b0 w W0 := by rw [← hW0, ← hb0]; exact below_new _ _
  have d0 := hx.cell (j := 0) rfl
  have HM1 := Lib.hid HM1
  have HM2 := Lib.hid HM2
  show Calls _ _ #[.agg #[.int .i64 ix, .int .i64 st, .string cf, .string dt], .slice A n c] w _
  go_enter Try.func10, Try.ntmps10
  go_wp2_with fail
  refine (HM1.out _).mono ?_
  rintro e w1 ⟨rfl, q1⟩
  have hx1 := hx.below q1
  have hB1 := hB.trans (q1.mono (Nat.le_trans (by omega) hB.size))
  have d1 := hx1.cell (j := 1) rfl
  clear hx hB d0 q1
  cases m1 with
  | false =>
    go_wp2
    go_ret
    exact ⟨by rw [hb0]; exact hB1, .inl ⟨hb.symm, rfl⟩⟩
  | true =>
    go_wp2_with fail
    refine (HM2.out _).mono ?_
    rintro e w2 ⟨rfl, q2⟩
    have hx2 := hx1.below q2
    have hB2 := hB1.trans (q2.mono (Nat.le_trans (by omega) hB1.size))
    have d0 := hx2.cell (j := 0) rfl
    have d1 := hx2.cell (j := 1) rfl
    clear hx1 hB1 q2
    cases m2 with
    | false =>
      go_wp2
      go_ret
      exact ⟨by rw [hb0]; exact hB2, .inl ⟨hb.symm, rfl⟩⟩
    | true =>
      by_cases h200 : n ≤ 200
      · go_wp2_with fail
        refine (HF.out _ (by rw [hb0]; exact hB2)).mono ?_
        rintro e w3 ⟨rfl, q3⟩
        have hx3 := hx2.below q3
        have hB3 := hB2.trans (q3.mono (Nat.le_trans (by omega) hB2.size))
        clear hx2 hB2 q3 d0 d1
        cases m3 with
        | false =>
          go_wp2
          go_ret
          exact ⟨by rw [hb0]; exact hB3, .inl ⟨by rw [← hb]; simp, rfl⟩⟩
        | true =>
          have hbt : b = true := by rw [← hb]; simpa using h200
          subst hbt
          clear hb
          have d0 := hx3.cell (j := 0) rfl
          have d1 := hx3.cell (j := 1) rfl
          have d2 := hx3.cell (j := 2) rfl
          have d3 := hx3.cell (j := 3) rfl
          obtain ⟨zs, hzs⟩ : ∃ zs, w3.heap.size = zs := ⟨_, rfl⟩
          have hS0 : Below zs w3 w3 := Below.refl _ _
          go_wp2_with fail
          refine (HCS.out _).mono ?_
          rintro e k9 ⟨rfl, h⟩
          replace hS0 := hS0.trans (h.mono (by omega))
          clear h
          go_wp2_with fail
          refine (HCE.out _ (by rw [hb0]; exact hB3.trans (hS0.mono (by have := hB3.size; omega)))).mono ?_
          rintro e k10 ⟨v, rfl, hO, h⟩
          have hb9 : b0 ≤ k9.heap.size := Nat.le_trans (by have := hB3.size; omega) hS0.size
          replace hO := hO.down hb9
          replace hS0 := hS0.trans (h.mono (by rw [← hzs]; exact hS0.size))
          obtain ⟨A9, c9, hv9⟩ := hO.slice
          rw [← HN.out] at hv9
          subst hv9
          obtain ⟨W9, hW9⟩ : ∃ W9, k10.alloc (.cells #[.int .i64 ix, .int .i64 st, .string cf, .string dt, .slice A9 n c9] 72) = W9 := ⟨_, rfl⟩
          obtain ⟨g, hg⟩ : ∃ g, k10.heap.size = g := ⟨_, rfl⟩
          have hzg : zs ≤ g := by rw [← hg, ← hzs]; exact hS0.size
          have hRt : Rt W9 g 72 [.int .i64 ix, .int .i64 st, .string cf, .string dt, .slice A9 n c9] := by rw [← hW9, ← hg]; exact Rt.new _ _ _
          have hO9 : OwnEn b0 (.slice A9 n c9) L W9 := by rw [← hW9]; exact hO.below (below_new _ _)
          replace hS0 : Below zs w3 W9 := by rw [← hW9]; exact hS0.trans ((below_new _ _).mono (by omega))
          have HW9 := Lib.hid hW9
          clear hW9 hO h
          go_wp2
          rw [HW9.out]
          go_ret
          exact ⟨hB3.trans (hS0.mono (by have := hB3.size; omega)), g, rfl, by have := hB3.size; omega, _, hO9, ⟨hRt, hO9.down (Nat.zero_le _)⟩⟩
      · have hbf : b = false := by rw [← hb, show decide (n ≤ 200) = false from decide_eq_false h200]; cases m3 <;> rfl
        subst hbf
        go_wp2
        go_ret
        exact ⟨hB2, rfl⟩
end Go.Proofs.Ytoekiencnbgmhaa
/-
  Package rlog's Snap, Get, Set.
  The conditions: those of its log.
-/
set_option linter.unusedSimpArgs false
set_option linter.unusedVariables false
namespace Go.Proofs.Ytoekiencnbgmhaa
open Go.RowKit Go.Deep
set_option maxRecDepth 100000

set_option maxHeartbeats 400000 in
theorem lsnap_any {w : World} {g : Nat} {v : Value} {r : Lg} (h : LB w g v r) (hk : Lok 1000000 r) :
    Calls Try.prog 55 #[.pointer (some ⟨g, 0, none⟩)] w fun e w' => e = .returned r.s.val ∧ Below w.heap.size w w' := by
  obtain ⟨A, c, rfl, hc, c0, c1, c2, c3, c4⟩ := h.parts
  have hz := hk.2.2.2.2
  obtain ⟨⟨ix, st, cf, dt⟩, hs⟩ : ∃ s, r.s = s := ⟨_, rfl⟩
  rw [hs] at c0 c1 c2 c3 hz ⊢
  simp only at c0 c1 c2 c3 hz
  have HC := Lib.hid fun W => lcopyS_any ix st cf dt W (by omega) (by omega)
  have hg := h.box.lt
  obtain ⟨b, hb0⟩ : ∃ b, w.heap.size = b := ⟨_, rfl⟩
  obtain ⟨W0, hW0⟩ : ∃ W0, w.alloc (.cells #[.int .i64 0, .int .i64 0, .string ⟨#[]⟩, .string ⟨#[]⟩] 23) = W0 := ⟨_, rfl⟩
  have hy : Rt W0 b 23 [.int .i64 0, .int .i64 0, .string ⟨#[]⟩, .string ⟨#[]⟩] := by rw [← hW0, ← hb0]; exact Rt.new _ _ _
  have hB : Below b w W0 := by rw [← hW0, ← hb0]; exact below_new _ _
  rw [hb0] at hg
  replace c0 := (hB.cell (p := ⟨g, 0, none⟩) hg).trans c0
  replace c1 := (hB.cell (p := ⟨g, 1, none⟩) hg).trans c1
  replace c2 := (hB.cell (p := ⟨g, 2, none⟩) hg).trans c2
  replace c3 := (hB.cell (p := ⟨g, 3, none⟩) hg).trans c3
  clear h hk hs
  show Calls _ _ _ _ fun e w' => e = .returned (.agg #[.int .i64 ix, .int .i64 st, .string cf, .string dt]) ∧ _
  go_enter Try.func55, Try.ntmps55
  go_wp2_with fail
  refine (HC.out _).mono ?_
  rintro e w1 ⟨rfl, hb⟩
  have hy1 := hy.below hb
  have hB1 := hB.trans (hb.mono (Nat.le_trans (by omega) hB.size))
  have d0 := hy1.cell (j := 0) rfl
  have d1 := hy1.cell (j := 1) rfl
  have d2 := hy1.cell (j := 2) rfl
  have d3 := hy1.cell (j := 3) rfl
  have f0 := hy1.frz 0
  have f1 := hy1.frz 1
  have f2 := hy1.frz 2
  have f3 := hy1.frz 3
  have hB4 := (((hB1.setCell (p := ⟨b, 0, none⟩) (Nat.le_refl b) (.int .i64 ix)).setCell (p := ⟨b, 1, none⟩) (Nat.le_refl b) (.int .i64 st)).setCell (p := ⟨b, 2, none⟩) (Nat.le_refl b) (.string cf)).setCell (p := ⟨b, 3, none⟩) (Nat.le_refl b) (.string dt)
  have hy4 := (((hy1.set 0 (.int .i64 ix)).set 1 (.int .i64 st)).set 2 (.string cf)).set 3 (.string dt)
  obtain ⟨W4, hW4⟩ : ∃ W4, (((w1.setCell ⟨b, 0, none⟩ (.int .i64 ix)).setCell ⟨b, 1, none⟩ (.int .i64 st)).setCell ⟨b, 2, none⟩ (.string cf)).setCell ⟨b, 3, none⟩ (.string dt) = W4 := ⟨_, rfl⟩
  rw [hW4] at hB4 hy4
  have g0 := hy4.cell (j := 0) rfl
  have g1 := hy4.cell (j := 1) rfl
  have g2 := hy4.cell (j := 2) rfl
  have g3 := hy4.cell (j := 3) rfl
  have HW4 := Lib.hid hW4
  clear hy hy1 hy4 hW4 hB hB1 hW0
  go_wp2
  rw [HW4.out]
  exact bodyPost_ret (v := .agg #[.int .i64 ix, .int .i64 st, .string cf, .string dt]) (by simp [results, Try.results55, go_sem, g0, g1, g2, g3]) rfl ⟨rfl, by first | exact hB4 | (rw [hb0]; exact hB4)⟩
set_option maxHeartbeats 400000 in
theorem lget_any {w : World} {g : Nat} {v : Value} {r : Lg} (h : LB w g v r) (hk : Lok 1000000 r) (i n : Int) (hn : -9223372036854775808 ≤ n ∧ n ≤ 9223372036854775807) :
    Calls Try.prog 24 #[.pointer (some ⟨g, 0, none⟩), .int .i64 i, .int .i64 n] w fun e w' => ∃ v', e = .returned v' ∧ OwnEn w.heap.size v' (get13 r i n) w' ∧ Below w.heap.size w w' := by
  have HF := Lib.hid (lfrom_any h hk i)
  have hsz : ∀ e ∈ frm13 r i, e.data.size ≤ 100000 := by
    intro e he
    unfold frm13 at he
    split at he
    · exact hk.2.2.2.1 e (List.mem_of_mem_drop he)
    · cases he
  have hfl : (frm13 r i).length ≤ 200 := by
    unfold frm13
    split
    · rw [List.length_drop]; have := hk.2.2.1; omega
    · simp
  unfold get13
  obtain ⟨F, hF⟩ : ∃ F, frm13 r i = F := ⟨_, rfl⟩
  rw [hF] at HF hsz hfl ⊢
  have HS := Lib.hid hsz
  have HL := Lib.hid hfl
  obtain ⟨S, hS⟩ : ∃ S : Nat → Prop, (fun j => v.ownBlock = some j) = S := ⟨_, rfl⟩
  rw [hS] at HF
  clear h hk hF hsz hfl hS
  obtain ⟨m, hm⟩ : ∃ m, F.length = m := ⟨_, rfl⟩
  have hfl := HL.out
  rw [hm] at hfl HF
  obtain ⟨q, hq⟩ : ∃ q : Nat, min (max n 0) (m : Int) = (q : Int) := ⟨(min (max n 0) (m : Int)).toNat, by omega⟩
  have hqm : q ≤ m := by omega
  have hqt : F.take n.toNat = F.take q := by
    by_cases h1 : n.toNat ≤ m
    · rw [show q = n.toNat by omega]
    · rw [List.take_of_length_le (by omega), List.take_of_length_le (by omega)]
  rw [hqt]
  have HM := Lib.hid hm
  have HQ := Lib.hid hq
  have hq2 : (max n 0 < (m : Int) → max n 0 = (q : Int)) ∧ (¬ max n 0 < (m : Int) → m = q) := by omega
  clear hqt hm
  go_enter Try.func24, Try.ntmps24
  go_wp2_with fail
  refine HF.out.mono ?_
  rintro e w1 ⟨A, c, rfl, hE, hb⟩
  have hmc := hE.len.2
  have hT := hE.take q (by rw [HM.out]; exact hqm)
  have HC := Lib.hid fun W (hb : Below w1.heap.size w1 W) => lcopyE_any S A q c (F.take q) W (hT.below hb) (by rw [List.length_take]; omega) (fun e he => Nat.le_trans (HS.out e (List.mem_of_mem_take he)) (by decide))
  clear hT hE
  go_wp2_with fail
  refine (HC.out w1 (Below.refl _ _)).mono ?_
  rintro e w2 ⟨v', rfl, hO, hb2⟩
  obtain ⟨A9, c9, hv9⟩ := hO.slice
  obtain ⟨q9, hq9⟩ : ∃ q9, (F.take q).length = q9 := ⟨_, rfl⟩
  rw [hq9] at hv9
  subst hv9
  have HO := Lib.hid hO
  clear hO hq9
  go_wp2
  go_ret
  exact ⟨_, rfl, HO.out.down hb.size, hb.trans (hb2.mono hb.size)⟩
set_option maxHeartbeats 400000 in
theorem lset_any {N : Nat → Prop} {m m' : Nat} {w : World} {g : Nat} {r : Lg} (h : LK N m w g r) (s : Snp) (hs : Lok m' ⟨s, []⟩) :
    Calls Try.prog 16 #[.pointer (some ⟨g, 0, none⟩), s.val] w fun e w' => (∃ v, e = .returned v) ∧ LK N m' w' g ⟨s, []⟩ ∧ Std N w w' := by
  obtain ⟨hk, ⟨v, hL, hv⟩, hg, hN⟩ := h
  have hz := hs.2.2.2.2
  have HS := Lib.hid hs
  obtain ⟨ix, st, cf, dt⟩ := s
  simp only at hz
  have HC := Lib.hid fun W => lcopyS_any ix st cf dt W (by omega) (by omega)
  have hgl := hL.box.lt
  obtain ⟨b, hb0⟩ : ∃ b, w.heap.size = b := ⟨_, rfl⟩
  obtain ⟨W0, hW0⟩ : ∃ W0, w.alloc (.cells #[.int .i64 ix, .int .i64 st, .string cf, .string dt] 23) = W0 := ⟨_, rfl⟩
  have hy : Rt W0 b 23 [.int .i64 ix, .int .i64 st, .string cf, .string dt] := by rw [← hW0, ← hb0]; exact Rt.new _ _ _
  have hB : Below w.heap.size w W0 := by rw [← hW0]; exact below_new _ _
  have d0 := hy.cell (j := 0) rfl
  have d1 := hy.cell (j := 1) rfl
  have d2 := hy.cell (j := 2) rfl
  have d3 := hy.cell (j := 3) rfl
  have HB := Lib.hid hB
  have HBOX := Lib.hid hL.box
  have HOWN := Lib.hid hv
  clear hs hk hL hB
  show Calls _ _ #[_, .agg #[.int .i64 ix, .int .i64 st, .string cf, .string dt]] w _
  go_enter Try.func16, Try.ntmps16
  go_wp2_with fail
  refine (HC.out _).mono ?_
  rintro e w1 ⟨rfl, hb⟩
  have hB1 := HB.out.trans (hb.mono HB.out.size)
  have hx := HBOX.out.below hB1
  have c0 := hx.cell (j := 0) rfl
  have c1 := hx.cell (j := 1) rfl
  have c2 := hx.cell (j := 2) rfl
  have c3 := hx.cell (j := 3) rfl
  have c4 := hx.cell (j := 4) rfl
  have f0 := hx.frz 0
  have f1 := hx.frz 1
  have f2 := hx.frz 2
  have f3 := hx.frz 3
  have f4 := hx.frz 4
  have hx5 := ((((hx.set 0 (.int .i64 ix)).set 1 (.int .i64 st)).set 2 (.string cf)).set 3 (.string dt)).set 4 (.slice none 0 0)
  have ho5 : Std N w (((((w1.setCell ⟨g, 0, none⟩ (.int .i64 ix)).setCell ⟨g, 1, none⟩ (.int .i64 st)).setCell ⟨g, 2, none⟩ (.string cf)).setCell ⟨g, 3, none⟩ (.string dt)).setCell ⟨g, 4, none⟩ (.slice none 0 0)) := Off.set (Off.set (Off.set (Off.set (Off.set (Std.of_below (N := N) hB1) (.inl hg)) (.inl hg)) (.inl hg)) (.inl hg)) (.inl hg)
  obtain ⟨W5, hW5⟩ : ∃ W5, ((((w1.setCell ⟨g, 0, none⟩ (.int .i64 ix)).setCell ⟨g, 1, none⟩ (.int .i64 st)).setCell ⟨g, 2, none⟩ (.string cf)).setCell ⟨g, 3, none⟩ (.string dt)).setCell ⟨g, 4, none⟩ (.slice none 0 0) = W5 := ⟨_, rfl⟩
  rw [hW5] at hx5 ho5
  have HW5 := Lib.hid hW5
  have HX5 := Lib.hid hx5
  have HO5 := Lib.hid ho5
  clear hx hx5 ho5 hb hB1 hy hW5
  go_wp2
  rw [HW5.out]
  go_end0
  exact ⟨⟨_, rfl⟩, ⟨HS.out, ⟨.slice none 0 0, ⟨HX5.out, OwnEn.nil _ _⟩, fun j hj => by cases hj⟩, hg, fun j hj => Nat.lt_of_lt_of_le (hN j hj) HO5.out.size⟩, HO5.out⟩
end Go.Proofs.Ytoekiencnbgmhaa
/-
  Package rlog's put and Put.
  The conditions: those of its log; the row that is put has at most 1,000 entries.
-/
set_option linter.unusedSimpArgs false
set_option linter.unusedVariables false
namespace Go.Proofs.Ytoekiencnbgmhaa
open Go.RowKit Go.Deep
set_option maxRecDepth 100000

set_option maxHeartbeats 1000000 in
/-- put: all that follows its first entry's Index goes, or nothing changes -/
theorem lput_any (N : Nat → Prop) (m : Nat) (A : Option Addr) (n c : Nat) (e0 : Ent) (t : List Ent) {w : World} {g : Nat} {r : Lg} (h : LK N m w g r) (hm : m ≤ 900000) (hE : Ens N w (.slice A n c) (e0 :: t)) (hl : (e0 :: t).length ≤ 1000) (hd : ∀ e ∈ e0 :: t, e.data.size ≤ 100000) (hi : r.s.ix < e0.ix ∧ e0.ix ≤ lst13 r + 1) (b : Bool)
    (hb : (!(decide (e0.et < (trm13 r (e0.ix - 1)).1) || decide (200 < (e0.ix - 1 - r.s.ix).toNat + (e0 :: t).length))) = b) :
    Calls Try.prog 47 #[.pointer (some ⟨g, 0, none⟩), .slice A n c] w fun e w' => e = .returned (.bool b) ∧ LK N (m + 1000) w' g (if b = true then ⟨r.s, r.L.take (e0.ix - 1 - r.s.ix).toNat ++ e0 :: t⟩ else r) ∧ Std N w w' := by
  obtain ⟨r', hr'⟩ : ∃ r', (if b = true then ⟨r.s, r.L.take (e0.ix - 1 - r.s.ix).toNat ++ e0 :: t⟩ else r) = r' := ⟨_, rfl⟩
  rw [hr']
  obtain ⟨hk, ⟨v, hL, hv⟩, hg, hN⟩ := h
  obtain ⟨⟨x, y⟩, hxy⟩ : ∃ p, trm13 r (e0.ix - 1) = p := ⟨_, rfl⟩
  have hT := fun W (hb : Below w.heap.size w W) => lterm_any (hL.below hb) (hk.more (by omega)) (e0.ix - 1) x y hxy
  rw [hxy] at hb
  have HLK := Lib.hid hk
  obtain ⟨A1, c1, rfl, hc1, k0, k1, k2, k3, k4⟩ := hL.parts
  obtain ⟨h0, h1, h2⟩ := hk.ends
  have hnL : n = (e0 :: t).length := hE.len.1
  obtain ⟨⟨xi, xt, xk, xd⟩, hx⟩ : ∃ x, e0 = x := ⟨_, rfl⟩
  obtain ⟨a, o, rfl, ha, b0, b1, b2, b3⟩ := hE.four 0 (by simp) (by show e0 = _; exact hx)
  simp only [Nat.zero_mul, Nat.add_zero] at b0 b1 b2 b3
  have hgl := hL.box.lt
  obtain ⟨q, hq⟩ : ∃ q : Nat, xi - 1 - r.s.ix = (q : Int) := ⟨(xi - 1 - r.s.ix).toNat, by rw [hx] at hi; simp only at hi; omega⟩
  have hqL : q ≤ r.L.length := by rw [hx] at hi; simp only at hi; have := hi.2; unfold lst13 at this; omega
  have hee : e0.ix = xi := by rw [hx]
  have het : e0.et = xt := by rw [hx]
  rw [hee, het, hq, Int.toNat_natCast, ← hnL] at hb
  rw [hee, hq, Int.toNat_natCast] at hr'
  simp only [hee] at hT
  rw [hee] at hi
  have hn0 : 0 < n := by rw [hnL]; simp
  have hn4 : n ≤ 1000 := by omega
  have hbxi : -9223372036854775808 ≤ xi - 1 ∧ xi ≤ 9223372036854775807 := by
    have := hi.2; unfold lst13 at this; omega
  obtain ⟨ix, hix⟩ : ∃ ix, r.s.ix = ix := ⟨_, rfl⟩
  rw [hix] at k0 hq h0 h1
  obtain ⟨rn, hrn⟩ : ∃ rn, r.L.length = rn := ⟨_, rfl⟩
  rw [hrn] at k4 hqL hc1 h2
  have HT := Lib.hid hT
  have HR := Lib.hid hr'
  have HE := Lib.hid hE
  have HD := Lib.hid hd
  have HL := Lib.hid hL
  have HV := Lib.hid hv
  have HNL := Lib.hid hnL
  have HRN := Lib.hid hrn
  have HQ := Lib.hid hqL
  have HI := Lib.hid hi
  have HIX := Lib.hid hix
  clear hr' hT hE hd hL hv hnL hx hxy hk hrn hee het hi k1 k2 k3 hix
  go_enter Try.func47, Try.ntmps47
  go_wp2_with fail
  refine (HT.out w (Below.refl _ _)).mono ?_
  rintro e w1 ⟨rfl, hb1⟩
  have d0 := (hb1.cell (p := ⟨a, o, none⟩) ha).trans b0
  have d1 := (hb1.cell (p := ⟨a, o + 1, none⟩) ha).trans b1
  have l4 := (hb1.cell (p := ⟨g, 4, none⟩) hgl).trans k4
  by_cases hxt : xt < x
  · have hbf : b = false := by rw [← hb, show decide (xt < x) = true from decide_eq_true hxt]; rfl
    subst hbf
    clear hb
    have hrr : r' = r := HR.out.symm
    subst hrr
    go_wp2
    go_ret
    exact ⟨rfl, ⟨HLK.out.more (by omega), ⟨_, HL.out.below hb1, HV.out⟩, hg, fun j hj => Nat.lt_of_lt_of_le (hN j hj) hb1.size⟩, Std.of_below hb1⟩
  · by_cases hqn : 200 < q + n
    · have hbf : b = false := by rw [← hb, show decide (200 < q + n) = true from decide_eq_true hqn]; simp
      subst hbf
      clear hb
      have hrr : r' = r := HR.out.symm
      subst hrr
      have hqi : 200 < (q : Int) + (n : Int) := by omega
      go_wp2
      go_ret
      exact ⟨rfl, ⟨HLK.out.more (by omega), ⟨_, HL.out.below hb1, HV.out⟩, hg, fun j hj => Nat.lt_of_lt_of_le (hN j hj) hb1.size⟩, Std.of_below hb1⟩
    · have hbt : b = true := by rw [← hb, show decide (xt < x) = false from decide_eq_false hxt, show decide (200 < q + n) = false from decide_eq_false hqn]; rfl
      subst hbt
      clear hb
      go_wp2_with fail
      obtain ⟨zs, hzs⟩ : ∃ zs, w1.heap.size = zs := ⟨_, rfl⟩
      have hbz : Below w.heap.size w w1.drew := hb1.drew
      replace l4 : w1.drew.cell? ⟨g, 4, none⟩ = some (.slice A1 rn c1) := l4
      refine wp_region_noPanic ?_
      refine region_g 16 (fun W => W.cell? ⟨g, 4, none⟩ = some (.slice A1 rn c1)) (by kernel_rfl) ?_
      generalize w1.drew = k5 at *
      have hHeld : (fun W : World => W.cell? ⟨g, 4, none⟩ = some (.slice A1 rn c1)) k5 := l4
      refine tkL 0 (.pointer (some ⟨g, 0, none⟩)) rfl (fun w hSw => ?_) ?_
      · (try dsimp only at hSw)
        go_simp
      try simp only [Act.put, List.setIfInBounds_toArray, List.set_cons_zero, List.set_cons_succ]
      refine tkL 1 (.pointer (some ⟨g, 0, none⟩)) rfl (fun w hSw => ?_) ?_
      · (try dsimp only at hSw)
        go_simp
      try simp only [Act.put, List.setIfInBounds_toArray, List.set_cons_zero, List.set_cons_succ]
      refine tkL 2 (.pointer (some ⟨g, 0, none⟩)) rfl (fun w hSw => ?_) ?_
      · (try dsimp only at hSw)
        go_simp
      try simp only [Act.put, List.setIfInBounds_toArray, List.set_cons_zero, List.set_cons_succ]
      refine tkL 3 (.pointer (some ⟨g, 4, none⟩)) rfl (fun w hSw => ?_) ?_
      · (try dsimp only at hSw)
        go_simp
      try simp only [Act.put, List.setIfInBounds_toArray, List.set_cons_zero, List.set_cons_succ]
      refine tkL 4 (.slice A1 rn c1) rfl (fun w hSw => ?_) ?_
      · (try dsimp only at hSw)
        go_simp
      try simp only [Act.put, List.setIfInBounds_toArray, List.set_cons_zero, List.set_cons_succ]
      refine tkL 5 (.int .i64 q) rfl (fun w hSw => ?_) ?_
      · (try dsimp only at hSw)
        go_simp
      try simp only [Act.put, List.setIfInBounds_toArray, List.set_cons_zero, List.set_cons_succ]
      refine tkL 6 (.pointer (some ⟨g, 0, none⟩)) rfl (fun w hSw => ?_) ?_
      · (try dsimp only at hSw)
        go_simp
      try simp only [Act.put, List.setIfInBounds_toArray, List.set_cons_zero, List.set_cons_succ]
      refine tkL 7 (.pointer (some ⟨g, 0, none⟩)) rfl (fun w hSw => ?_) ?_
      · (try dsimp only at hSw)
        go_simp
      try simp only [Act.put, List.setIfInBounds_toArray, List.set_cons_zero, List.set_cons_succ]
      refine tkL 8 (.pointer (some ⟨g, 4, none⟩)) rfl (fun w hSw => ?_) ?_
      · (try dsimp only at hSw)
        go_simp
      try simp only [Act.put, List.setIfInBounds_toArray, List.set_cons_zero, List.set_cons_succ]
      refine tkL 9 (.slice A1 rn c1) rfl (fun w hSw => ?_) ?_
      · (try dsimp only at hSw)
        go_simp
      try simp only [Act.put, List.setIfInBounds_toArray, List.set_cons_zero, List.set_cons_succ]
      refine tkL 10 (.int .i64 rn) rfl (fun w hSw => ?_) ?_
      · (try dsimp only at hSw)
        go_simp
      try simp only [Act.put, List.setIfInBounds_toArray, List.set_cons_zero, List.set_cons_succ]
      refine tkL 11 (.slice (some ⟨a, o, none⟩) n c) rfl (fun w hSw => ?_) ?_
      · (try dsimp only at hSw)
        go_simp
      try simp only [Act.put, List.setIfInBounds_toArray, List.set_cons_zero, List.set_cons_succ]
      refine stM 12 rfl (fun K hK => ?_)
      go_simp
      go_at_call 43
      refine (lcopyE_any N _ n c (e0 :: t) _ (HE.out.below hbz) (by omega) (fun e he => Nat.le_trans (HD.out e he) (by decide))).mono ?_
      rintro e k9 ⟨v9, rfl, hO9, h9⟩
      have hb9 := hbz.trans (h9.mono hbz.size)
      have hL9 := HL.out.below hb9
      have l4 := hL9.box.cell (j := 4) (v := .slice A1 rn c1) (by rw [← HRN.out]; rfl)
      obtain ⟨a9, c9, rfl⟩ : ∃ a9 c9, v9 = .slice (some a9) n c9 := by
        obtain ⟨A9, c9, hv9⟩ := hO9.slice
        rw [← HNL.out] at hv9
        rcases hO9.2 with ⟨e1, e2⟩ | ⟨g', c', cur, e1, _⟩
        · rw [← HNL.out] at e2; omega
        · exact ⟨_, c', by rw [e1, ← HNL.out]⟩
      have HO9 := Lib.hid hO9
      have HL9 := Lib.hid hL9
      clear hO9 hL9 h9
      clear hHeld
      have hHeld : (fun W : World => W.cell? ⟨g, 4, none⟩ = some (.slice A1 rn c1)) _ := l4
      refine hK.out _ _ (.inr hHeld) ?_
      clear hK K
      try simp only [Act.put, List.setIfInBounds_toArray, List.set_cons_zero, List.set_cons_succ]
      refine stM 13 rfl (fun K hK => ?_)
      go_simp
      go_at_call 65
      refine (kreplace_any _ A1 q rn c1 n c9 a9 r.L (e0 :: t) k9 (by have := HL9.out.own; rw [HRN.out] at this; exact this) (Ens.of_own HO9.out) hn0 hqL (by rw [HRN.out, ← HNL.out]; omega)).mono ?_
      rintro e k10 ⟨v10, rfl, hO10, hG10⟩
      have hgb : ∀ j, (Value.slice A1 rn c1).ownBlock = some j → j ≠ g := fun j hj e => by
        subst e
        have := HL9.out.ne
        rw [HRN.out] at this
        exact this hj
      have hx10 : Rt k10 g 72 (lcs13 r (.slice A1 rn c1)) := by
        have := (hG10.1.block g HL9.out.box.lt (fun e => hgb g e.symm rfl)).trans HL9.out.box
        rw [HRN.out] at this; exact this
      have l4 := hx10.cell (j := 4) (v := .slice A1 rn c1) rfl
      have f4 := hx10.frz 4
      have ho10 : Std N w k10 := (Std.of_below hb9).grown hG10.1 (fun j hj => .inl fun hn => HV.out j (by rw [HRN.out]; exact hj) hn)
      have hnew : ∀ j, v10.ownBlock = some j → ¬ N j := by
        intro j hj hn
        rcases hG10.2 with e | e
        · exact HV.out j (by rw [HRN.out, ← e]; exact hj) hn
        · rw [e] at hj; injection hj with hj
          have := hN j hn
          have := hb9.size
          omega
      have hx11 := hx10.set 4 v10
      have ho11 : Std N w (k10.setCell ⟨g, 4, none⟩ v10) := Off.set ho10 (.inl hg)
      have hO11 : OwnEn 0 v10 (r.L.take q ++ e0 :: t) (k10.setCell ⟨g, 4, none⟩ v10) := hO10.off (S := fun j => j = g) ((Off.refl _ k10).set (.inl rfl)) (fun j hj e => by subst e; exact own_ne11 log_ne_entry hx10 hO10 hj)
      obtain ⟨A10, c10, hv10⟩ := hO10.slice
      obtain ⟨n10, hn10⟩ : ∃ n10, (r.L.take q ++ e0 :: t).length = n10 := ⟨_, rfl⟩
      rw [hn10] at hv10
      subst hv10
      have HX11 := Lib.hid hx11
      have HO11 := Lib.hid ho11
      have HW11 := Lib.hid hO11
      clear hx11 ho11 hO11 hO10 hG10 ho10 hn10
      clear hHeld
      have hHeld : (fun W : World => W.cell? ⟨g, 4, none⟩ = some (.slice A1 rn c1)) _ := l4
      refine hK.out _ _ (.inr hHeld) ?_
      clear hK K
      try simp only [Act.put, List.setIfInBounds_toArray, List.set_cons_zero, List.set_cons_succ]
      refine stM 14 rfl (fun K hK => ?_)
      go_simp
      clear hHeld
      have hHeld : (fun W : World => W.cell? ⟨g, 4, none⟩ = some (.slice A1 rn c1)) _ := l4
      refine hK.out _ _ (.inr hHeld) ?_
      clear hK K
      try simp only [Act.put, List.setIfInBounds_toArray, List.set_cons_zero, List.set_cons_succ]
      refine stM 15 rfl (fun K hK => ?_)
      go_simp
      clear hHeld
      have hHeld : (fun W : World => W.cell? ⟨g, 4, none⟩ = some (.slice A1 rn c1)) _ := l4
      refine hK.out _ _ (.inr hHeld) ?_
      clear hK K
      try simp only [Act.put, List.setIfInBounds_toArray, List.set_cons_zero, List.set_cons_succ]
      refine stM 16 rfl (fun K hK => ?_)
      go_simp
      obtain ⟨W11, hW11⟩ : ∃ W11, k10.setCell ⟨g, 4, none⟩ (.slice A10 n10 c10) = W11 := ⟨_, rfl⟩
      rw [hW11]
      rw [hW11] at HX11 HO11 HW11
      clear hW11
      refine hK.out _ _ (.inl (by decide)) ?_
      clear hK K
      try simp only [Act.put, List.setIfInBounds_toArray, List.set_cons_zero, List.set_cons_succ]
      refine anyG_done (by kernel_rfl) ?_ _
      refine NoPanic.normal ?_
      go_wp2
      go_ret
      have hr2 : r' = ⟨r.s, r.L.take q ++ e0 :: t⟩ := HR.out.symm
      have hk := HLK.out
      refine ⟨rfl, ⟨?_, ⟨_, ⟨by rw [hr2]; exact HX11.out, by rw [hr2]; exact HW11.out⟩, hnew⟩, hg, fun j hj => Nat.lt_of_lt_of_le (hN j hj) HO11.out.size⟩, HO11.out⟩
      rw [hr2]
      have h9 := hk.2.1
      refine ⟨hk.1, ?_, ?_, fun e he => ?_, hk.2.2.2.2⟩
      · unfold lst13 at h9 ⊢
        simp only [List.length_append, List.length_take]
        rw [HRN.out] at h9 ⊢
        rw [← HNL.out]
        omega
      · simp only [List.length_append, List.length_take]
        rw [HRN.out, ← HNL.out]
        omega
      · rcases List.mem_append.1 he with h | h
        · exact hk.2.2.2.1 e (List.mem_of_mem_take h)
        · exact HD.out e h
end Go.Proofs.Ytoekiencnbgmhaa
/-
  slices.IndexFunc of a row of entries, by what a log lacks.
  The conditions: 1,000 entries at most, and those of the log.
-/
set_option linter.unusedSimpArgs false
set_option linter.unusedVariables false
namespace Go.Proofs.Ytoekiencnbgmhaa
open Go.RowKit Go.Deep
set_option maxRecDepth 100000

/-- the place of the first entry that is not there -/
def idx13 (r : Lg) (L : List Ent) : Option Nat := L.findIdx? (lck13 r)
def idxI13 (r : Lg) (L : List Ent) : Int := match idx13 r L with | none => -1 | some k => (k : Int)
theorem rst13_idx (r : Lg) (L : List Ent) : rst13 r L = match idx13 r L with | none => [] | some k => L.drop k := by
  unfold rst13 idx13
  induction L with
  | nil => rfl
  | cons x t ih =>
    rw [List.dropWhile_cons, List.findIdx?_cons]
    cases hx : lck13 r x with
    | true => rfl
    | false =>
      simp only [Bool.not_false, if_true, Bool.false_eq_true, if_false]
      rw [ih]
      cases t.findIdx? (lck13 r) <;> rfl
theorem idx13_lt {r : Lg} {L : List Ent} {k : Nat} (h : idx13 r L = some k) : k < L.length := by
  unfold idx13 at h
  exact (List.findIdx?_eq_some_iff_getElem.1 h).1
theorem idxI13_at {r : Lg} {L : List Ent} {k : Nat} (hk : k < L.length) (h : ∀ j (hj : j < k), lck13 r (L[j]'(by omega)) = false) (h2 : lck13 r L[k] = true) : idxI13 r L = (k : Int) := by
  have : idx13 r L = some k := List.findIdx?_eq_some_iff_getElem.2 ⟨hk, h2, fun j hj => by simpa using h j hj⟩
  unfold idxI13; rw [this]
theorem idxI13_none {r : Lg} {L : List Ent} (h : ∀ j (hj : j < L.length), lck13 r L[j] = false) : idxI13 r L = -1 := by
  have : idx13 r L = none := List.findIdx?_eq_none_iff.2 fun x hx => by
    obtain ⟨j, hj, e⟩ := List.mem_iff_getElem.1 hx
    rw [← e]; exact h j hj
  unfold idxI13; rw [this]
set_option maxHeartbeats 1000000 in
theorem lindex_any (N : Nat → Prop) (A : Option Addr) (n c : Nat) (L : List Ent) {w : World} {g : Nat} {v : Value} {r : Lg} (h : LB w g v r) (hk : Lok 1000000 r) (hE : Ens N w (.slice A n c) L) (hl : L.length ≤ 1000) (i : Int) (hi : idxI13 r L = i) :
    Calls Try.prog 45 #[.slice A n c, .func (.func 46) #[.pointer (some ⟨g, 0, none⟩)] #[]] w fun e w' => e = .returned (.int .i64 i) ∧ Below w.heap.size w w' := by
  have hnL : n = L.length := hE.len.1
  have HK := Lib.hid fun W (hb : Below w.heap.size w W) x b hq => llacks_any (h.below hb) hk x b hq
  have HE := Lib.hid hE
  have HN := Lib.hid hnL
  have HI := Lib.hid hi
  have hn4 : n ≤ 1000 := by omega
  clear h hk hE hnL hi
  go_enter Try.func45, Try.ntmps45
  go_wp2_with fail
  go_loopw [8] (fun i wr => ∃ k : Nat, i = .int .i64 k ∧ k ≤ n ∧ Below w.heap.size w wr ∧ ∀ j (hj : j < L.length), j < k → lck13 r L[j] = false) (fun i _ => n - (intOf i).toNat)
  case atStart => exact ⟨0, rfl, Nat.zero_le _, Below.refl _ _, fun j _ h => absurd h (Nat.not_lt_zero _)⟩
  case round =>
    obtain ⟨k, rfl, hk, hb, hno⟩ := hrel
    have HNO := Lib.hid hno
    clear hno
    by_cases hkn : k < n
    · have hkL : k < L.length := by rw [← HN.out]; exact hkn
      have hki : (k : Int) < (n : Int) := by omega
      obtain ⟨⟨xk, yk, zk, dk⟩, hxk⟩ : ∃ x, L[k] = x := ⟨_, rfl⟩
      obtain ⟨a, o, rfl, ha, b0, b1, b2, b3⟩ := (HE.out.below hb).four k hkL hxk
      obtain ⟨q, hq⟩ : ∃ q, lck13 r ⟨xk, yk, zk, dk⟩ = q := ⟨_, rfl⟩
      have HC := Lib.hid (HK.out wr hb ⟨xk, yk, zk, dk⟩ q hq)
      have HX := Lib.hid hxk
      have HQ := Lib.hid hq
      clear hxk hq
      go_wp2_with fail
      refine HC.out.mono ?_
      rintro e w1 ⟨rfl, hb1⟩
      have hb2 := hb.trans (hb1.mono hb.size)
      cases q with
      | true =>
        have hz : i = (k : Int) := by
          rw [← HI.out]
          exact idxI13_at hkL (fun j hj => HNO.out j (by omega) hj) (by rw [HX.out]; exact HQ.out)
        subst hz
        go_wp2
        go_ret
        exact ⟨rfl, hb2⟩
      | false =>
        go_wp2
        go_roundw
        case rel =>
          refine ⟨k + 1, by go_num, by omega, hb2, fun j hj hjk => ?_⟩
          by_cases e : j = k
          · subst e; rw [HX.out]; exact HQ.out
          · exact HNO.out j hj (by omega)
        case measure => first | (simp [intOf]; omega) | (simp [intOf]; done)
    · have hkn2 : k = n := by omega
      subst hkn2
      have hz : i = -1 := by
        rw [← HI.out]
        exact idxI13_none fun j hj => HNO.out j hj (by rw [HN.out]; exact hj)
      subst hz
      go_wp2
      go_ret
      exact ⟨rfl, hb⟩
end Go.Proofs.Ytoekiencnbgmhaa
/-
  Package rlog's Put.
  The conditions: those of its log; the row that is put has at most 200 entries.
-/
set_option linter.unusedSimpArgs false
set_option linter.unusedVariables false
namespace Go.Proofs.Ytoekiencnbgmhaa
open Go.RowKit Go.Deep
set_option maxRecDepth 100000

set_option maxHeartbeats 1000000 in
theorem lPut_any (N : Nat → Prop) (m : Nat) (A : Option Addr) (n c : Nat) (L : List Ent) {w : World} {g : Nat} {r : Lg} (h : LK N m w g r) (hm : m ≤ 900000) (hE : Ens N w (.slice A n c) L) (hl : L.length ≤ 1000) (hd : ∀ e ∈ L, e.data.size ≤ 100000 ∧ -9223372036854775808 ≤ e.ix ∧ e.ix ≤ 9223372036854775807) (r' : Lg) (i : Int) (b : Bool) (hp : put13 r L = (r', i, b)) :
    Calls Try.prog 12 #[.pointer (some ⟨g, 0, none⟩), .slice A n c] w fun e w' => e = .returned (.tuple #[.int .i64 i, .bool b]) ∧ LK N (m + 1000) w' g r' ∧ Std N w w' := by
  obtain ⟨v, hL, hk⟩ := h.get (by omega)
  cases L with
  | nil =>
    have hn : n = 0 := hE.len.1
    subst hn
    have hp : (r, (0 : Int), true) = (r', i, b) := hp
    injection hp with e1 e2
    injection e2 with e2 e3
    subst e1; subst e2; subst e3
    clear hE hd hL hk
    go_enter Try.func12, Try.ntmps12
    go_wp2
    go_ret2
    exact ⟨rfl, h.more (by omega), Std.refl _ _⟩
  | cons e0 t =>
    obtain ⟨⟨xi, xt, xk, xd⟩, hx⟩ : ∃ x, e0 = x := ⟨_, rfl⟩
    have hx0 := (hd e0 (by simp)).2
    have hnL : n = t.length + 1 := hE.len.1
    obtain ⟨a, o, rfl, ha, b0, b1, b2, b3⟩ := hE.four 0 (by simp) (by show e0 = _; exact hx)
    simp only [Nat.zero_mul, Nat.add_zero] at b0 b1 b2 b3
    have hnc := hE.len.2
    obtain ⟨U, hU, hdr⟩ : ∃ U : Value, ((c = 1 ∧ n = 1 ∧ U = .slice (some ⟨a, o, none⟩) 0 0) ∨ (1 < c ∧ U = .slice (some ⟨a, o + 4, none⟩) (n - 1) (c - 1))) ∧ ∃ A' n' c', U = .slice A' n' c' ∧ Ens N w (.slice A' n' c') t := by
      have hd1 := hE.drop 1 (by simp)
      by_cases hc1 : c = 1
      · refine ⟨.slice (some ⟨a, o, none⟩) 0 0, .inl ⟨hc1, by omega, rfl⟩, _, 0, 0, rfl, ?_⟩
        have ht : t = [] := by
          have : t.length = 0 := by omega
          exact List.length_eq_zero_iff.1 this
        subst ht
        exact ⟨_, _, rfl, Nat.le_refl _, fun h => absurd h (by simp)⟩
      · rw [if_neg hc1, add_lit_10] at hd1
        refine ⟨.slice (some ⟨a, o + 4, none⟩) (n - 1) (c - 1), .inr ⟨by omega, rfl⟩, _, _, _, rfl, ?_⟩
        have e1 : n - 1 = (e0 :: t).length - 1 := by simp; omega
        rw [e1]
        exact hd1
    obtain ⟨Au, nu, cu, rfl, hdr⟩ := hdr
    obtain ⟨gp, hgp⟩ : ∃ gp, decide (lst13 r + 1 < xi) = gp := ⟨_, rfl⟩
    have hG := fun W (hb : Below w.heap.size w W) => lgap_any (hL.below hb) hk xi (by rw [hx] at hx0; simp only at hx0; omega) gp hgp
    obtain ⟨fl, hfl⟩ : ∃ fl, flw13 xi xt t = fl := ⟨_, rfl⟩
    have hF := fun W (hb : Below w.heap.size w W) => lfollow_any N Au nu cu t xi xt W (hdr.below hb) (by simp only [List.length_cons] at hl; omega) (by rw [hx] at hx0; exact hx0) (fun e he => (hd e (by simp [he])).2) fl hfl
    have hee : e0.ix = xi := by rw [hx]
    have het : e0.et = xt := by rw [hx]
    have hp2 : (if gp = true ∨ fl = false then (r, (0 : Int), false) else match rst13 r (e0 :: t) with
      | [] => (r, (0 : Int), true)
      | e :: u => if e.et < (trm13 r (e.ix - 1)).1 ∨ 200 < (e.ix - 1 - r.s.ix).toNat + (e :: u).length then (r, 0, false) else (⟨r.s, r.L.take (e.ix - 1 - r.s.ix).toNat ++ e :: u⟩, e.ix, true)) = (r', i, b) := by
      rw [← hp, ← hgp, ← hfl]
      unfold put13
      simp only [hee, het, decide_eq_true_eq]
      rfl
    have HG := Lib.hid hG
    have HU := Lib.hid hU
    have HF := Lib.hid hF
    have HP := Lib.hid hp2
    have HE := Lib.hid hE
    have HH := Lib.hid h
    have HD := Lib.hid hd
    have HX := Lib.hid hx
    have HGP := Lib.hid hgp
    have HFL := Lib.hid hfl
    have HLB := Lib.hid hL
    have HNL := Lib.hid hnL
    clear hU hG hF hp hp2 hE h hd hx hgp hfl hL hnL hdr hee het
    have hn1 : 1 ≤ n := by rw [HNL.out]; omega
    have hn0 : 0 < n := hn1
    have hnz : ¬ n = 0 := by omega
    obtain ⟨iq, hiq⟩ : ∃ iq, idxI13 r (e0 :: t) = iq := ⟨_, rfl⟩
    have HIQ := Lib.hid hiq
    clear hiq
    go_enter Try.func12, Try.ntmps12
    cases gp with
    | true =>
      have hp3 : (r, (0 : Int), false) = (r', i, b) := by have := HP.out; rw [if_pos (.inl rfl)] at this; exact this
      injection hp3 with e1 e2
      injection e2 with e2 e3
      subst e1; subst e2; subst e3
      go_wp2_with fail
      have B0 := Lib.hid b0
      have B1 := Lib.hid b1
      have hb1 : Below w.heap.size w w.drew := (Below.refl _ _).drew
      replace b0 : w.drew.cell? ⟨a, o, none⟩ = some (.int .i64 xi) := b0
      replace b1 : w.drew.cell? ⟨a, o + 1, none⟩ = some (.int .i64 xt) := b1
      refine wp_region_noPanic ?_
      refine wp_region_held_drew (S := fun W => W.cell? ⟨a, o, none⟩ = some (.int .i64 xi) ∧ W.cell? ⟨a, o + 1, none⟩ = some (.int .i64 xt)) (by kernel_rfl) ?_ (fun hHeld => ?_)
      · exact ⟨b0, b1⟩
      generalize w.drew = k5 at *
      refine tkH 0 (.pointer (some ⟨g, 0, none⟩)) rfl (fun w hSw => ?_) ?_
      · (try dsimp only at hSw)
        obtain ⟨q0, q1⟩ := hSw
        go_simp
      try simp only [Act.put, List.setIfInBounds_toArray, List.set_cons_zero, List.set_cons_succ]
      refine tkH 1 (.slice (some ⟨a, o, none⟩) n c) rfl (fun w hSw => ?_) ?_
      · (try dsimp only at hSw)
        obtain ⟨q0, q1⟩ := hSw
        go_simp
      try simp only [Act.put, List.setIfInBounds_toArray, List.set_cons_zero, List.set_cons_succ]
      refine tkH 2 (.pointer (some ⟨a, o, none⟩)) rfl (fun w hSw => ?_) ?_
      · (try dsimp only at hSw)
        obtain ⟨q0, q1⟩ := hSw
        go_simp
      try simp only [Act.put, List.setIfInBounds_toArray, List.set_cons_zero, List.set_cons_succ]
      refine tkH 3 (.pointer (some ⟨a, o, none⟩)) rfl (fun w hSw => ?_) ?_
      · (try dsimp only at hSw)
        obtain ⟨q0, q1⟩ := hSw
        go_simp
      try simp only [Act.put, List.setIfInBounds_toArray, List.set_cons_zero, List.set_cons_succ]
      refine tkH 4 (.int .i64 xi) rfl (fun w hSw => ?_) ?_
      · (try dsimp only at hSw)
        obtain ⟨q0, q1⟩ := hSw
        go_simp
      try simp only [Act.put, List.setIfInBounds_toArray, List.set_cons_zero, List.set_cons_succ]
      refine stH 5 rfl (fun K hK => ?_)
      go_simp
      go_at_call 44
      refine (HG.out _ hb1).mono ?_
      rintro e k9 ⟨rfl, h⟩
      replace hb1 := hb1.trans (h.mono hb1.size)
      replace b0 := (hb1.cell (p := ⟨a, o, none⟩) ha).trans B0.out
      replace b1 := (hb1.cell (p := ⟨a, o + 1, none⟩) ha).trans B1.out
      clear h
      refine hK.out _ _ ?_ (fun hHeld => ?_)
      · exact ⟨b0, b1⟩
      clear hK K
      try simp only [Act.put, List.setIfInBounds_toArray, List.set_cons_zero, List.set_cons_succ]
      refine tkH 6 (.bool true) rfl (fun w hSw => ?_) ?_
      · (try dsimp only at hSw)
        obtain ⟨q0, q1⟩ := hSw
        go_simp
      try simp only [Act.put, List.setIfInBounds_toArray, List.set_cons_zero, List.set_cons_succ]
      refine skH 7 rfl ?_
      try simp only [Act.put, List.setIfInBounds_toArray, List.set_cons_zero, List.set_cons_succ]
      refine skH 8 rfl ?_
      try simp only [Act.put, List.setIfInBounds_toArray, List.set_cons_zero, List.set_cons_succ]
      refine skH 9 rfl ?_
      try simp only [Act.put, List.setIfInBounds_toArray, List.set_cons_zero, List.set_cons_succ]
      refine skH 10 rfl ?_
      try simp only [Act.put, List.setIfInBounds_toArray, List.set_cons_zero, List.set_cons_succ]
      refine skH 11 rfl ?_
      try simp only [Act.put, List.setIfInBounds_toArray, List.set_cons_zero, List.set_cons_succ]
      refine skH 12 rfl ?_
      try simp only [Act.put, List.setIfInBounds_toArray, List.set_cons_zero, List.set_cons_succ]
      refine skH 13 rfl ?_
      try simp only [Act.put, List.setIfInBounds_toArray, List.set_cons_zero, List.set_cons_succ]
      refine skH 14 rfl ?_
      try simp only [Act.put, List.setIfInBounds_toArray, List.set_cons_zero, List.set_cons_succ]
      refine skH 15 rfl ?_
      try simp only [Act.put, List.setIfInBounds_toArray, List.set_cons_zero, List.set_cons_succ]
      refine skH 16 rfl ?_
      try simp only [Act.put, List.setIfInBounds_toArray, List.set_cons_zero, List.set_cons_succ]
      refine skH 17 rfl ?_
      try simp only [Act.put, List.setIfInBounds_toArray, List.set_cons_zero, List.set_cons_succ]
      refine skH 18 rfl ?_
      try simp only [Act.put, List.setIfInBounds_toArray, List.set_cons_zero, List.set_cons_succ]
      refine tkH 19 (.bool true) rfl (fun w hSw => ?_) ?_
      · (try dsimp only at hSw)
        obtain ⟨q0, q1⟩ := hSw
        go_simp
      try simp only [Act.put, List.setIfInBounds_toArray, List.set_cons_zero, List.set_cons_succ]
      refine wpAnyH_done (by kernel_rfl) ?_ _
      refine NoPanic.normal ?_
      go_wp2
      go_ret2
      exact ⟨rfl, (HH.out.more (by omega)).below hb1, Std.of_below hb1⟩
    | false =>
      go_wp2_with fail
      have B0 := Lib.hid b0
      have B1 := Lib.hid b1
      have hb1 : Below w.heap.size w w.drew := (Below.refl _ _).drew
      replace b0 : w.drew.cell? ⟨a, o, none⟩ = some (.int .i64 xi) := b0
      replace b1 : w.drew.cell? ⟨a, o + 1, none⟩ = some (.int .i64 xt) := b1
      refine wp_region_noPanic ?_
      refine wp_region_held_drew (S := fun W => W.cell? ⟨a, o, none⟩ = some (.int .i64 xi) ∧ W.cell? ⟨a, o + 1, none⟩ = some (.int .i64 xt)) (by kernel_rfl) ?_ (fun hHeld => ?_)
      · exact ⟨b0, b1⟩
      generalize w.drew = k5 at *
      refine tkH 0 (.pointer (some ⟨g, 0, none⟩)) rfl (fun w hSw => ?_) ?_
      · (try dsimp only at hSw)
        obtain ⟨q0, q1⟩ := hSw
        go_simp
      try simp only [Act.put, List.setIfInBounds_toArray, List.set_cons_zero, List.set_cons_succ]
      refine tkH 1 (.slice (some ⟨a, o, none⟩) n c) rfl (fun w hSw => ?_) ?_
      · (try dsimp only at hSw)
        obtain ⟨q0, q1⟩ := hSw
        go_simp
      try simp only [Act.put, List.setIfInBounds_toArray, List.set_cons_zero, List.set_cons_succ]
      refine tkH 2 (.pointer (some ⟨a, o, none⟩)) rfl (fun w hSw => ?_) ?_
      · (try dsimp only at hSw)
        obtain ⟨q0, q1⟩ := hSw
        go_simp
      try simp only [Act.put, List.setIfInBounds_toArray, List.set_cons_zero, List.set_cons_succ]
      refine tkH 3 (.pointer (some ⟨a, o, none⟩)) rfl (fun w hSw => ?_) ?_
      · (try dsimp only at hSw)
        obtain ⟨q0, q1⟩ := hSw
        go_simp
      try simp only [Act.put, List.setIfInBounds_toArray, List.set_cons_zero, List.set_cons_succ]
      refine tkH 4 (.int .i64 xi) rfl (fun w hSw => ?_) ?_
      · (try dsimp only at hSw)
        obtain ⟨q0, q1⟩ := hSw
        go_simp
      try simp only [Act.put, List.setIfInBounds_toArray, List.set_cons_zero, List.set_cons_succ]
      refine stH 5 rfl (fun K hK => ?_)
      go_simp
      go_at_call 44
      refine (HG.out _ hb1).mono ?_
      rintro e k9 ⟨rfl, h⟩
      replace hb1 := hb1.trans (h.mono hb1.size)
      replace b0 := (hb1.cell (p := ⟨a, o, none⟩) ha).trans B0.out
      replace b1 := (hb1.cell (p := ⟨a, o + 1, none⟩) ha).trans B1.out
      clear h
      refine hK.out _ _ ?_ (fun hHeld => ?_)
      · exact ⟨b0, b1⟩
      clear hK K
      try simp only [Act.put, List.setIfInBounds_toArray, List.set_cons_zero, List.set_cons_succ]
      refine tkH 6 (.bool false) rfl (fun w hSw => ?_) ?_
      · (try dsimp only at hSw)
        obtain ⟨q0, q1⟩ := hSw
        go_simp
      try simp only [Act.put, List.setIfInBounds_toArray, List.set_cons_zero, List.set_cons_succ]
      refine tkH 7 (.slice (some ⟨a, o, none⟩) n c) rfl (fun w hSw => ?_) ?_
      · (try dsimp only at hSw)
        obtain ⟨q0, q1⟩ := hSw
        go_simp
      try simp only [Act.put, List.setIfInBounds_toArray, List.set_cons_zero, List.set_cons_succ]
      refine tkH 8 (.pointer (some ⟨a, o, none⟩)) rfl (fun w hSw => ?_) ?_
      · (try dsimp only at hSw)
        obtain ⟨q0, q1⟩ := hSw
        go_simp
      try simp only [Act.put, List.setIfInBounds_toArray, List.set_cons_zero, List.set_cons_succ]
      refine tkH 9 (.pointer (some ⟨a, o, none⟩)) rfl (fun w hSw => ?_) ?_
      · (try dsimp only at hSw)
        obtain ⟨q0, q1⟩ := hSw
        go_simp
      try simp only [Act.put, List.setIfInBounds_toArray, List.set_cons_zero, List.set_cons_succ]
      refine tkH 10 (.int .i64 xi) rfl (fun w hSw => ?_) ?_
      · (try dsimp only at hSw)
        obtain ⟨q0, q1⟩ := hSw
        go_simp
      try simp only [Act.put, List.setIfInBounds_toArray, List.set_cons_zero, List.set_cons_succ]
      refine tkH 11 (.slice (some ⟨a, o, none⟩) n c) rfl (fun w hSw => ?_) ?_
      · (try dsimp only at hSw)
        obtain ⟨q0, q1⟩ := hSw
        go_simp
      try simp only [Act.put, List.setIfInBounds_toArray, List.set_cons_zero, List.set_cons_succ]
      refine tkH 12 (.pointer (some ⟨a, o, none⟩)) rfl (fun w hSw => ?_) ?_
      · (try dsimp only at hSw)
        obtain ⟨q0, q1⟩ := hSw
        go_simp
      try simp only [Act.put, List.setIfInBounds_toArray, List.set_cons_zero, List.set_cons_succ]
      refine tkH 13 (.pointer (some ⟨a, o + 1, none⟩)) rfl (fun w hSw => ?_) ?_
      · (try dsimp only at hSw)
        obtain ⟨q0, q1⟩ := hSw
        go_simp
      try simp only [Act.put, List.setIfInBounds_toArray, List.set_cons_zero, List.set_cons_succ]
      refine tkH 14 (.int .i64 xt) rfl (fun w hSw => ?_) ?_
      · (try dsimp only at hSw)
        obtain ⟨q0, q1⟩ := hSw
        go_simp
      try simp only [Act.put, List.setIfInBounds_toArray, List.set_cons_zero, List.set_cons_succ]
      refine tkH 15 (.slice (some ⟨a, o, none⟩) n c) rfl (fun w hSw => ?_) ?_
      · (try dsimp only at hSw)
        obtain ⟨q0, q1⟩ := hSw
        go_simp
      try simp only [Act.put, List.setIfInBounds_toArray, List.set_cons_zero, List.set_cons_succ]
      refine tkH 16 (.slice Au nu cu) rfl (fun w hSw => ?_) ?_
      · (try dsimp only at hSw)
        obtain ⟨q0, q1⟩ := hSw
        rcases HU.out with ⟨q2, q3, q4⟩ | ⟨q2, q4⟩
        · injection q4 with e1 e2 e3; subst q2; subst q3; subst e1; subst e2; subst e3; go_simp
        injection q4 with e1 e2 e3
        subst e1; subst e2; subst e3
        have hc2 : ¬ c = 1 := by omega
        have hni : (1 : Int) ≤ (n : Int) := by omega
        go_simp
      try simp only [Act.put, List.setIfInBounds_toArray, List.set_cons_zero, List.set_cons_succ]
      refine stH 17 rfl (fun K hK => ?_)
      go_simp
      go_at_call 41
      refine (HF.out _ hb1).mono ?_
      rintro e k10 ⟨rfl, h⟩
      replace hb1 := hb1.trans (h.mono hb1.size)
      replace b0 := (hb1.cell (p := ⟨a, o, none⟩) ha).trans B0.out
      replace b1 := (hb1.cell (p := ⟨a, o + 1, none⟩) ha).trans B1.out
      clear h
      refine hK.out _ _ ?_ (fun hHeld => ?_)
      · exact ⟨b0, b1⟩
      clear hK K
      try simp only [Act.put, List.setIfInBounds_toArray, List.set_cons_zero, List.set_cons_succ]
      refine tkH 18 (.bool (!fl)) rfl (fun w hSw => ?_) ?_
      · (try dsimp only at hSw)
        obtain ⟨q0, q1⟩ := hSw
        go_simp
      try simp only [Act.put, List.setIfInBounds_toArray, List.set_cons_zero, List.set_cons_succ]
      refine tkH 19 (.bool (!fl)) rfl (fun w hSw => ?_) ?_
      · (try dsimp only at hSw)
        obtain ⟨q0, q1⟩ := hSw
        go_simp
      try simp only [Act.put, List.setIfInBounds_toArray, List.set_cons_zero, List.set_cons_succ]
      refine wpAnyH_done (by kernel_rfl) ?_ _
      refine NoPanic.normal ?_
      cases fl with
      | false =>
        have hp3 : (r, (0 : Int), false) = (r', i, b) := by have := HP.out; rw [if_pos (.inr rfl)] at this; exact this
        injection hp3 with e1 e2
        injection e2 with e2 e3
        subst e1; subst e2; subst e3
        go_wp2
        go_ret2
        exact ⟨rfl, (HH.out.more (by omega)).below hb1, Std.of_below hb1⟩
      | true =>
        have hp3 := HP.out
        rw [if_neg (by simp)] at hp3
        go_wp2_with fail
        refine (lindex_any N _ n c (e0 :: t) (HLB.out.below hb1) hk (HE.out.below hb1) (by omega) iq HIQ.out).mono ?_
        rintro e w3 ⟨rfl, h3⟩
        replace hb1 := hb1.trans (h3.mono hb1.size)
        clear h3
        rw [rst13_idx] at hp3
        have hiq := HIQ.out
        unfold idxI13 at hiq
        cases hix : idx13 r (e0 :: t) with
        | none =>
          rw [hix] at hp3 hiq
          have hp4 : (r, (0 : Int), true) = (r', i, b) := hp3
          have hq1 : -1 = iq := hiq
          injection hp4 with e1 e2
          injection e2 with e2 e3
          subst e1; subst e2; subst e3; subst hq1
          clear hp3 hix hiq
          go_wp2
          go_ret2
          exact ⟨rfl, (HH.out.more (by omega)).below hb1, Std.of_below hb1⟩
        | some k =>
          rw [hix] at hp3 hiq
          have hq1 : (k : Int) = iq := hiq
          subst hq1
          have hkl := idx13_lt hix
          have hrst : rst13 r (e0 :: t) = (e0 :: t).drop k := by rw [rst13_idx, hix]
          have hHX := HX.out
          obtain ⟨e9, u9, hdk⟩ : ∃ e9 u9, (e0 :: t).drop k = e9 :: u9 := ⟨_, _, List.drop_eq_getElem_cons hkl⟩
          have hek : (e0 :: t)[k] = e9 := by
            rw [List.drop_eq_getElem_cons hkl] at hdk
            injection hdk
          have hgp2 : ¬ lst13 r + 1 < xi := by simpa using HGP.out
          have hin := rst13_ix (r := r) (e0 := e0) (t := t) (by rw [hHX]; show xi ≤ lst13 r + 1; omega) (by rw [hHX]; exact HFL.out) (hrst.trans hdk)
          have hEk := (HE.out.below hb1).drop k (by omega)
          have hkn : k < n := by rw [HNL.out]; simpa using hkl
          rw [if_neg (by have := HE.out.len.2; omega), add_lit_10, hdk] at hEk
          have hdk2 : ∀ e ∈ e9 :: u9, e.data.size ≤ 100000 := fun e he => (HD.out e (List.mem_of_mem_drop (by rw [hdk]; exact he))).1
          have hlk : (e9 :: u9).length = n - k := by
            have h7 : ((e0 :: t).drop k).length = (e0 :: t).length - k := List.length_drop
            rw [hdk] at h7
            rw [h7, HNL.out]; rfl
          simp only [hdk] at hp3
          obtain ⟨c9, hc9⟩ : ∃ c9, (!(decide (e9.et < (trm13 r (e9.ix - 1)).1) || decide (200 < (e9.ix - 1 - r.s.ix).toNat + (e9 :: u9).length))) = c9 := ⟨_, rfl⟩
          have hlen2 : (e0 :: t).length - k = n - k := by rw [HNL.out]; rfl
          rw [hlen2] at hEk
          have hput := lput_any N m _ (n - k) (c - k) e9 u9 (HH.out.below hb1) hm hEk (by rw [hlk]; omega) hdk2 hin c9 hc9
          obtain ⟨⟨yi, yt, yk, yd⟩, hy9⟩ : ∃ y, e9 = y := ⟨_, rfl⟩
          obtain ⟨a2, o2, ea, ha2, y0, y1, y2, y3⟩ := (HE.out).four k hkl (by first | exact hek.trans hy9 | (rw [hek]; exact hy9))
          injection ea with ea; injection ea with ea1 ea2
          subst ea1; subst ea2
          have hki : (k : Int) < (n : Int) := by omega
          have hki2 : (k : Int) ≤ (n : Int) := by omega
          have hkc : ¬ c = k := by have := HE.out.len.2; omega
          have HPUT := Lib.hid hput
          have hy9i : e9.ix = yi := by rw [hy9]
          have HP3 := Lib.hid hp3
          have HC9 := Lib.hid hc9
          have HNE := Lib.hid (fun W (ho : Std N w W) => (ho.ens HE.out).four k hkl (by first | exact hek.trans hy9 | (rw [hek]; exact hy9)))
          have HB1 := Lib.hid hb1
          have HYI := Lib.hid hy9i
          clear hp3 hix hiq hkl hrst hHX hdk hek hgp2 hin hEk hdk2 hlk hc9 hlen2 hput hy9 y0 y1 y2 y3 hb1 hy9i
          go_wp2_with fail
          refine HPUT.out.mono ?_
          rintro e w4 ⟨rfl, hLK4, hS4⟩
          cases c9 with
          | false =>
            have hp5 : (r, (0 : Int), false) = (r', i, b) := by
              have h1 := HC9.out
              rw [← HP3.out, if_pos (by
                have h2 : e9.et < (trm13 r (e9.ix - 1)).1 ∨ 200 < (e9.ix - 1 - r.s.ix).toNat + (e9 :: u9).length := by
                  rcases Bool.eq_false_or_eq_true (decide (e9.et < (trm13 r (e9.ix - 1)).1)) with h3 | h3
                  · exact .inl (of_decide_eq_true h3)
                  · rw [h3, Bool.false_or] at h1
                    exact .inr (of_decide_eq_true (by simpa only [Bool.not_eq_false'] using h1))
                exact h2)]
            injection hp5 with e1 e2
            injection e2 with e2 e3
            subst e1; subst e2; subst e3
            have HL4 := Lib.hid hLK4
            clear hLK4
            go_wp2
            go_ret2
            exact ⟨rfl, HL4.out, (Std.of_below HB1.out).trans hS4⟩
          | true =>
            have hp5 : (⟨r.s, r.L.take (e9.ix - 1 - r.s.ix).toNat ++ e9 :: u9⟩, e9.ix, true) = (r', i, b) := by
              have h1 := HC9.out
              rw [← HP3.out, if_neg (by simpa [Bool.or_eq_true] using h1)]
            rw [HYI.out] at hp5
            injection hp5 with e1 e2
            injection e2 with e2 e3
            subst e1; subst e2; subst e3
            have hS5 := (Std.of_below (N := N) HB1.out).trans hS4
            obtain ⟨a3, o3, ea, ha3, y0, y1, y2, y3⟩ := HNE.out w4 hS5
            injection ea with ea; injection ea with ea1 ea2
            subst ea1; subst ea2
            have HL4 := Lib.hid hLK4
            clear hLK4
            go_wp2
            go_ret2
            exact ⟨by first | rfl | (rw [HYI.out]; rfl) | (rw [← HYI.out]; rfl), by have := HL4.out; first | exact this | (rw [HYI.out] at this; exact this), hS5⟩
end Go.Proofs.Ytoekiencnbgmhaa
/-
  slices.Delete of the first entries of a row; package rlog's Pack.
  The conditions: those of its log.
-/
set_option linter.unusedSimpArgs false
set_option linter.unusedVariables false
namespace Go.Proofs.Ytoekiencnbgmhaa
open Go.RowKit Go.Deep
set_option maxRecDepth 100000

theorem nat_back13 (m j : Nat) : m + j - j = m := Nat.add_sub_cancel _ _
/-- entries appended where there is room, as one operation -/
theorem wp_append_fits {w : World} {o : Oper} {a : Act} {K : Act → World → Prop} {Q : Exit → Act → World → Prop} (s x : Operand)
    (ho : o.op = .call { callee := .builtin .append, args := #[s, x], argTypes := #[24, 24] })
    (g i cap : Nat) (L M : List Ent) (p : Addr) (m c : Nat) (N : Nat → Prop) (hs : a.eval s = .slice (some ⟨g, 0, none⟩) i cap) (hown : OwnEn 0 (.slice (some ⟨g, 0, none⟩) i cap) L w) (hx : a.eval x = .slice (some p) m c) (hM : Ens N w (.slice (some p) m c) M) (hl : i + m ≤ cap)
    (h : ∀ w', OwnEn 0 (.slice (some ⟨g, 0, none⟩) (i + m) cap) (L ++ M) w' → w.grownBy w' (some g) → K (a.put o.dst (.slice (some ⟨g, 0, none⟩) (i + m) cap)) w') : o.wp Try.prog a w K Q := by
  obtain ⟨iO, hiO, hzO0, hzO1, hzO2⟩ := info_parts Try.infoEn
  have h1 := (Ens.of_own hown).len.1
  have h2 := hM.len.1
  have hown' : w.ownsRow 0 65 4 (.slice (some ⟨g, 0, none⟩) i cap) i (L.flatMap Ent.cs) := by rw [h1] at hown ⊢; exact hown
  obtain ⟨w', hr, g1, g2⟩ := run_append_fits (P := Try.prog) w 0 24 o.type 65 iO 4 Try.underlying24 hiO hzO1 g i cap _ hown' p m c (M.flatMap Ent.cs) (by rw [ents_len, h2]) (En.news hM) (ents_one M) hl
  unfold Oper.wp
  simp only [execOp, ho, resolve, invoke, builtin, Sem.run_bind, Sem.run_pure, Result.andThen_ok, List.map_toArray, List.map_cons, List.map_nil, hs, hx, hr]
  refine h w' ?_ g2
  unfold OwnEn
  rw [List.length_append, List.flatMap_append, ← h1, ← h2]
  exact g1
set_option maxHeartbeats 400000 in
theorem ldelete_any (A : Option Addr) (m c j : Nat) (L : List Ent) (w : World) (hL : OwnEn 0 (.slice A (m + j) c) L w) (h1 : 1 ≤ j) (hl : L.length ≤ 1050000) :
    Calls Try.prog 50 #[.slice A (m + j) c, .int .i64 0, .int .i64 j] w (Rew (.slice A (m + j) c) (L.drop j) w) := by
  have hn : m + j ≤ c := (Ens.of_own hL).len.2
  have hnL : m + j = L.length := (Ens.of_own hL).len.1
  obtain ⟨g, rfl⟩ : ∃ g, A = some ⟨g, 0, Option.none⟩ := by
    rcases hL.2 with ⟨hv, h2⟩ | ⟨g', c', cur, hv, _⟩
    · omega
    · injection hv with e1 _ _
      exact ⟨g', e1⟩
  have HT := Lib.hid (hL.take (j := 0) (Nat.zero_le _))
  have hdl : (L.drop j).length = m := by rw [List.length_drop, ← hnL]; omega
  have hd := (Ens.of_own hL).drop j (by omega)
  rw [← hnL, nat_back13] at hd
  obtain ⟨M, hM⟩ : ∃ M, L.drop j = M := ⟨_, rfl⟩
  rw [hM] at hd hdl ⊢
  have HDL := Lib.hid hdl
  have hij : ((0 : Int) == (j : Int)) = false := by simp; omega
  have hji : (j : Int) ≤ ((m + j : Nat) : Int) := by omega
  have hj0 : ¬ (j : Int) < 0 := by omega
  have hcm : ¬ c = m := by omega
  clear hL hdl hnL hM
  obtain ⟨B, hB, hd⟩ : ∃ B, (if c = j then some (⟨g, 0, none⟩ : Addr) else (some (⟨g, 0, none⟩ : Addr)).map (·.add (j * 4))) = some B ∧ Ens (fun i => (Value.slice (some ⟨g, 0, none⟩) (m + j) c).ownBlock = some i) w (.slice (some B) m (c - j)) M := by
    by_cases hcj : c = j
    · rw [if_pos hcj] at hd ⊢
      exact ⟨_, rfl, hd⟩
    · rw [if_neg hcj, add_lit_10] at hd ⊢
      exact ⟨_, rfl, hd⟩
  have HD := Lib.hid hd
  rw [add_lit_10, Nat.zero_add] at hB
  clear hd
  go_enter Try.func50, Try.ntmps50
  have hjm : ¬ ((m : Int) + (j : Int) < (j : Int)) := by omega
  go_wp2_with fail
  have HT := Lib.hid (HT.out.below (show Below w.heap.size w w.drew from (Below.refl _ _).drew))
  have HD := Lib.hid (HD.out.below (show Below w.heap.size w w.drew from (Below.refl _ _).drew))
  have hgd : w.grownBy w.drew (some g) := ⟨rfl, rfl, rfl, Nat.le_refl _, fun _ _ _ => rfl⟩
  refine wp_region_noPanic ?_
  refine wp_region_held_drew (S := fun W => True) (by kernel_rfl) ?_ (fun hHeld => ?_)
  · exact trivial
  generalize w.drew = k5 at *
  refine tkH 0 (.slice (some ⟨g, 0, none⟩) (m + j) c) rfl (fun w hSw => ?_) ?_
  · (try dsimp only at hSw)
    go_simp
  try simp only [Act.put, List.setIfInBounds_toArray, List.set_cons_zero, List.set_cons_succ]
  refine tkH 1 (.int .i64 0) rfl (fun w hSw => ?_) ?_
  · (try dsimp only at hSw)
    go_simp
  try simp only [Act.put, List.setIfInBounds_toArray, List.set_cons_zero, List.set_cons_succ]
  refine tkH 2 (.slice (some ⟨g, 0, none⟩) 0 c) rfl (fun w hSw => ?_) ?_
  · (try dsimp only at hSw)
    go_simp
  try simp only [Act.put, List.setIfInBounds_toArray, List.set_cons_zero, List.set_cons_succ]
  refine tkH 3 (.slice (some ⟨g, 0, none⟩) (m + j) c) rfl (fun w hSw => ?_) ?_
  · (try dsimp only at hSw)
    go_simp
  try simp only [Act.put, List.setIfInBounds_toArray, List.set_cons_zero, List.set_cons_succ]
  refine tkH 4 (.int .i64 j) rfl (fun w hSw => ?_) ?_
  · (try dsimp only at hSw)
    go_simp
  try simp only [Act.put, List.setIfInBounds_toArray, List.set_cons_zero, List.set_cons_succ]
  refine tkH 5 (.slice (some B) m (c - j)) rfl (fun w hSw => ?_) ?_
  · (try dsimp only at hSw)
    go_simp
  try simp only [Act.put, List.setIfInBounds_toArray, List.set_cons_zero, List.set_cons_succ]
  refine stH 6 rfl (fun K hK => ?_)
  refine wp_append_fits (.tmp 22) (.tmp 25) rfl g 0 c _ _ _ _ _ _ rfl HT.out rfl HD.out (by omega) ?_
  intro w' g1 g2
  rw [Nat.zero_add] at g1 ⊢
  refine hK.out _ _ ?_ (fun hHeld => ?_)
  · exact trivial
  clear hK K
  try simp only [Act.put, List.setIfInBounds_toArray, List.set_cons_zero, List.set_cons_succ]
  refine tkH 7 (.slice (some ⟨g, 0, none⟩) m c) rfl (fun w hSw => ?_) ?_
  · (try dsimp only at hSw)
    go_simp
  try simp only [Act.put, List.setIfInBounds_toArray, List.set_cons_zero, List.set_cons_succ]
  refine wpAnyH_done (by kernel_rfl) ?_ _
  refine NoPanic.normal ?_
  have C := g1.cells
  obtain ⟨zs, hz, hcl⟩ := run_clear_En w' g (m * 4) j (c - m) (by omega) (fun i hi => C.1 _ (by omega)) (fun i _ => C.2 _)
  clear C
  have hmj : ¬ (m : Int) < 0 := by omega
  have hmj2 : (m : Int) ≤ (m : Int) + (j : Int) := by omega
  have hmc : (m : Int) + (j : Int) ≤ (c : Int) := by omega
  go_wp2
  go_ret
  exact ⟨_, rfl, own_clear g1 (by rw [HDL.out]; exact Nat.le_refl _), grown_trans10 hgd (grown_trans10 g2 (grown_setCells11 _ _ _)), .inl rfl⟩
end Go.Proofs.Ytoekiencnbgmhaa
/-
  Package rlog's Pack.
  The conditions: those of its log; the snapshot's texts have at most 100,000 bytes.
-/
set_option linter.unusedSimpArgs false
set_option linter.unusedVariables false
namespace Go.Proofs.Ytoekiencnbgmhaa
open Go.RowKit Go.Deep
set_option maxRecDepth 100000

set_option maxHeartbeats 1000000 in
theorem lpack_any {N : Nat → Prop} {m : Nat} {w : World} {g : Nat} {r : Lg} (h : LK N m w g r) (hm : m ≤ 900000) (s : Snp) (hc : s.conf.size ≤ 100000) (hd : s.data.size ≤ 100000) (r' : Lg) (b : Bool) (hp : pck13 r s = (r', b)) :
    Calls Try.prog 15 #[.pointer (some ⟨g, 0, none⟩), s.val] w fun e w' => e = .returned (.bool b) ∧ LK N m w' g r' ∧ Std N w w' := by
  have hok := pck13_ok h.1 hc hd
  rw [hp] at hok
  have HOK := Lib.hid hok
  obtain ⟨hk, ⟨v, hL, hv⟩, hg, hN⟩ := h
  obtain ⟨fb, hfb⟩ : ∃ fb, fts13 r s.ix s.st = fb := ⟨_, rfl⟩
  have hF := fun W (hb : Below w.heap.size w W) => lfits_any (hL.below hb) (hk.more (by omega)) s.ix s.st fb hfb
  obtain ⟨A1, c1, rfl, hc1, k0, k1, k2, k3, k4⟩ := hL.parts
  obtain ⟨h0, h1, h2⟩ := hk.ends
  have hin : fb = true → r.s.ix < s.ix → s.ix ≤ lst13 r := by
    intro hf hi
    apply Classical.byContradiction
    intro hn
    rw [hf] at hfb
    unfold fts13 at hfb
    rw [trm13_out (by omega) (by omega)] at hfb
    simp at hfb
  obtain ⟨ix, st, cf, dt⟩ := s
  simp only at hc hd hfb hF hin
  have HC := Lib.hid fun W => lcopyS_any ix st cf dt W (by omega) (by omega)
  have hgl := hL.box.lt
  obtain ⟨b0, hb0⟩ : ∃ b0, w.heap.size = b0 := ⟨_, rfl⟩
  obtain ⟨W0, hW0⟩ : ∃ W0, w.alloc (.cells #[.int .i64 ix, .int .i64 st, .string cf, .string dt] 23) = W0 := ⟨_, rfl⟩
  have hy : Rt W0 b0 23 [.int .i64 ix, .int .i64 st, .string cf, .string dt] := by rw [← hW0, ← hb0]; exact Rt.new _ _ _
  have hb1 : Below w.heap.size w W0 := by rw [← hW0]; exact below_new _ _
  obtain ⟨rx, hrx⟩ : ∃ rx, r.s.ix = rx := ⟨_, rfl⟩
  rw [hrx] at k0 h0 h1 hin
  obtain ⟨n, hn⟩ : ∃ n, r.L.length = n := ⟨_, rfl⟩
  rw [hn] at k4 hc1 h2
  have d0 := hy.cell (j := 0) rfl
  have d1 := hy.cell (j := 1) rfl
  replace k0 := (hb1.cell (p := ⟨g, 0, none⟩) hgl).trans k0
  have hbl : b0 < W0.heap.size := hy.lt
  have HF := Lib.hid hF
  have HL := Lib.hid hL
  have HV := Lib.hid hv
  have HN := Lib.hid hn
  have HRX := Lib.hid hrx
  have HFB := Lib.hid hfb
  have HP := Lib.hid hp
  have HY := Lib.hid hy
  have HIN := Lib.hid hin
  have HK := Lib.hid hk
  clear hF hL hv hn hrx hfb hp hy hin hk hok k1 k2 k3 k4
  show Calls _ _ #[_, .agg #[.int .i64 ix, .int .i64 st, .string cf, .string dt]] w _
  go_enter Try.func15, Try.ntmps15
  by_cases hlt : rx < ix
  · go_wp2_with fail
    have hb1 : Below w.heap.size w W0.drew := hb1.drew
    have hy : Rt W0.drew b0 23 [.int .i64 ix, .int .i64 st, .string cf, .string dt] := HY.out
    replace hgl : g < W0.drew.heap.size := Nat.lt_of_lt_of_le hgl hb1.size
    replace k0 : W0.drew.cell? ⟨g, 0, none⟩ = some (.int .i64 rx) := k0
    replace d0 : W0.drew.cell? ⟨b0, 0, none⟩ = some (.int .i64 ix) := d0
    replace d1 : W0.drew.cell? ⟨b0, 1, none⟩ = some (.int .i64 st) := d1
    refine wp_region_noPanic ?_
    refine wp_region_held_drew (S := fun W => W.cell? ⟨g, 0, none⟩ = some (.int .i64 rx) ∧ W.cell? ⟨b0, 0, none⟩ = some (.int .i64 ix) ∧ W.cell? ⟨b0, 1, none⟩ = some (.int .i64 st)) (by kernel_rfl) ?_ (fun hHeld => ?_)
    · exact ⟨k0, d0, d1⟩
    generalize W0.drew = k5 at *
    refine tkH 0 (.pointer (some ⟨g, 0, none⟩)) rfl (fun w hSw => ?_) ?_
    · (try dsimp only at hSw)
      obtain ⟨q0, q1, q2⟩ := hSw
      go_simp
    try simp only [Act.put, List.setIfInBounds_toArray, List.set_cons_zero, List.set_cons_succ]
    refine tkH 1 (.bool false) rfl (fun w hSw => ?_) ?_
    · (try dsimp only at hSw)
      obtain ⟨q0, q1, q2⟩ := hSw
      go_simp
    try simp only [Act.put, List.setIfInBounds_toArray, List.set_cons_zero, List.set_cons_succ]
    refine tkH 2 (.bool false) rfl (fun w hSw => ?_) ?_
    · (try dsimp only at hSw)
      obtain ⟨q0, q1, q2⟩ := hSw
      go_simp
    try simp only [Act.put, List.setIfInBounds_toArray, List.set_cons_zero, List.set_cons_succ]
    refine tkH 3 (.pointer (some ⟨b0, 0, none⟩)) rfl (fun w hSw => ?_) ?_
    · (try dsimp only at hSw)
      obtain ⟨q0, q1, q2⟩ := hSw
      go_simp
    try simp only [Act.put, List.setIfInBounds_toArray, List.set_cons_zero, List.set_cons_succ]
    refine tkH 4 (.int .i64 ix) rfl (fun w hSw => ?_) ?_
    · (try dsimp only at hSw)
      obtain ⟨q0, q1, q2⟩ := hSw
      go_simp
    try simp only [Act.put, List.setIfInBounds_toArray, List.set_cons_zero, List.set_cons_succ]
    refine tkH 5 (.pointer (some ⟨g, 0, none⟩)) rfl (fun w hSw => ?_) ?_
    · (try dsimp only at hSw)
      obtain ⟨q0, q1, q2⟩ := hSw
      go_simp
    try simp only [Act.put, List.setIfInBounds_toArray, List.set_cons_zero, List.set_cons_succ]
    refine tkH 6 (.pointer (some ⟨g, 0, none⟩)) rfl (fun w hSw => ?_) ?_
    · (try dsimp only at hSw)
      obtain ⟨q0, q1, q2⟩ := hSw
      go_simp
    try simp only [Act.put, List.setIfInBounds_toArray, List.set_cons_zero, List.set_cons_succ]
    refine tkH 7 (.pointer (some ⟨g, 0, none⟩)) rfl (fun w hSw => ?_) ?_
    · (try dsimp only at hSw)
      obtain ⟨q0, q1, q2⟩ := hSw
      go_simp
    try simp only [Act.put, List.setIfInBounds_toArray, List.set_cons_zero, List.set_cons_succ]
    refine tkH 8 (.pointer (some ⟨g, 0, none⟩)) rfl (fun w hSw => ?_) ?_
    · (try dsimp only at hSw)
      obtain ⟨q0, q1, q2⟩ := hSw
      go_simp
    try simp only [Act.put, List.setIfInBounds_toArray, List.set_cons_zero, List.set_cons_succ]
    refine tkH 9 (.int .i64 rx) rfl (fun w hSw => ?_) ?_
    · (try dsimp only at hSw)
      obtain ⟨q0, q1, q2⟩ := hSw
      go_simp
    try simp only [Act.put, List.setIfInBounds_toArray, List.set_cons_zero, List.set_cons_succ]
    refine tkH 10 (.bool false) rfl (fun w hSw => ?_) ?_
    · (try dsimp only at hSw)
      obtain ⟨q0, q1, q2⟩ := hSw
      go_simp
    try simp only [Act.put, List.setIfInBounds_toArray, List.set_cons_zero, List.set_cons_succ]
    refine tkH 11 (.bool false) rfl (fun w hSw => ?_) ?_
    · (try dsimp only at hSw)
      obtain ⟨q0, q1, q2⟩ := hSw
      go_simp
    try simp only [Act.put, List.setIfInBounds_toArray, List.set_cons_zero, List.set_cons_succ]
    refine tkH 12 (.bool false) rfl (fun w hSw => ?_) ?_
    · (try dsimp only at hSw)
      obtain ⟨q0, q1, q2⟩ := hSw
      go_simp
    try simp only [Act.put, List.setIfInBounds_toArray, List.set_cons_zero, List.set_cons_succ]
    refine tkH 13 (.pointer (some ⟨g, 0, none⟩)) rfl (fun w hSw => ?_) ?_
    · (try dsimp only at hSw)
      obtain ⟨q0, q1, q2⟩ := hSw
      go_simp
    try simp only [Act.put, List.setIfInBounds_toArray, List.set_cons_zero, List.set_cons_succ]
    refine tkH 14 (.pointer (some ⟨b0, 0, none⟩)) rfl (fun w hSw => ?_) ?_
    · (try dsimp only at hSw)
      obtain ⟨q0, q1, q2⟩ := hSw
      go_simp
    try simp only [Act.put, List.setIfInBounds_toArray, List.set_cons_zero, List.set_cons_succ]
    refine tkH 15 (.int .i64 ix) rfl (fun w hSw => ?_) ?_
    · (try dsimp only at hSw)
      obtain ⟨q0, q1, q2⟩ := hSw
      go_simp
    try simp only [Act.put, List.setIfInBounds_toArray, List.set_cons_zero, List.set_cons_succ]
    refine tkH 16 (.pointer (some ⟨b0, 1, none⟩)) rfl (fun w hSw => ?_) ?_
    · (try dsimp only at hSw)
      obtain ⟨q0, q1, q2⟩ := hSw
      go_simp
    try simp only [Act.put, List.setIfInBounds_toArray, List.set_cons_zero, List.set_cons_succ]
    refine tkH 17 (.int .i64 st) rfl (fun w hSw => ?_) ?_
    · (try dsimp only at hSw)
      obtain ⟨q0, q1, q2⟩ := hSw
      go_simp
    try simp only [Act.put, List.setIfInBounds_toArray, List.set_cons_zero, List.set_cons_succ]
    refine stH 18 rfl (fun K hK => ?_)
    go_simp
    go_at_call 19
    refine (HF.out _ hb1).mono ?_
    rintro e k9 ⟨rfl, h⟩
    replace hb1 := hb1.trans (h.mono hb1.size)
    replace hy := hy.below h
    replace k0 := (h.cell (p := ⟨g, 0, none⟩) hgl).trans k0
    replace d0 := hy.cell (j := 0) rfl
    replace d1 := hy.cell (j := 1) rfl
    clear h
    refine hK.out _ _ ?_ (fun hHeld => ?_)
    · exact ⟨k0, d0, d1⟩
    clear hK K
    try simp only [Act.put, List.setIfInBounds_toArray, List.set_cons_zero, List.set_cons_succ]
    refine tkH 19 (.bool (!fb)) rfl (fun w hSw => ?_) ?_
    · (try dsimp only at hSw)
      obtain ⟨q0, q1, q2⟩ := hSw
      go_simp
    try simp only [Act.put, List.setIfInBounds_toArray, List.set_cons_zero, List.set_cons_succ]
    refine tkH 20 (.bool (!fb)) rfl (fun w hSw => ?_) ?_
    · (try dsimp only at hSw)
      obtain ⟨q0, q1, q2⟩ := hSw
      go_simp
    try simp only [Act.put, List.setIfInBounds_toArray, List.set_cons_zero, List.set_cons_succ]
    refine wpAnyH_done (by kernel_rfl) ?_ _
    refine NoPanic.normal ?_
    cases fb with
    | false =>
      have hp2 : (r, false) = (r', b) := by
        rw [← HP.out]; unfold pck13
        rw [if_neg (by rintro ⟨_, h⟩; rw [HFB.out] at h; exact absurd h (by simp))]
      injection hp2 with e1 e2
      subst e1; subst e2
      go_wp2
      go_ret
      exact ⟨rfl, ⟨HOK.out, ⟨_, HL.out.below hb1, HV.out⟩, hg, fun j hj => Nat.lt_of_lt_of_le (hN j hj) hb1.size⟩, Std.of_below hb1⟩
    | true =>
      have hp2 : (⟨⟨ix, st, cf, dt⟩, r.L.drop (ix - rx).toNat⟩, true) = (r', b) := by
        rw [← HP.out]; unfold pck13
        rw [if_pos ⟨by rw [HRX.out]; exact hlt, HFB.out⟩, HRX.out]
      injection hp2 with e1 e2
      subst e1; subst e2
      have hil := HIN.out rfl hlt
      have hil2 : ix ≤ rx + (n : Int) := by rw [← HRX.out, ← HN.out]; exact hil
      obtain ⟨q, hq⟩ : ∃ q : Nat, ix - rx = (q : Int) := ⟨(ix - rx).toNat, by omega⟩
      have hq1 : 1 ≤ q := by omega
      obtain ⟨mm, hmm⟩ : ∃ mm, n = mm + q := ⟨n - q, by omega⟩
      subst hmm
      have hk1 := HL.out.below hb1
      have k4 := hk1.box.cell (j := 4) rfl
      have f4 := hk1.box.frz 4
      rw [HN.out] at k4
      have HQ := Lib.hid hq
      have HK1 := Lib.hid hk1
      have hixb : -9223372036854775808 ≤ ix - rx ∧ ix - rx ≤ 9223372036854775807 := by omega
      clear hk1 hil hq1
      go_wp2_with fail
      have hb6 : Below w.heap.size w k9.drew := hb1.drew
      have HK6 := Lib.hid (HK1.out.below (show Below k9.heap.size k9 k9.drew from (Below.refl _ _).drew))
      have HY6 := Lib.hid (show Rt k9.drew b0 23 [.int .i64 ix, .int .i64 st, .string cf, .string dt] from hy)
      have hq1 : 1 ≤ q := by have := HQ.out; omega
      have hwq : IntKind.i64.wrap (q : Int) = (q : Int) := by rw [IntKind.wrap_i64]; have := HQ.out; omega
      replace k4 : k9.drew.cell? ⟨g, 4, none⟩ = some (.slice A1 (mm + q) c1) := k4
      replace k0 : k9.drew.cell? ⟨g, 0, none⟩ = some (.int .i64 rx) := k0
      replace d0 : k9.drew.cell? ⟨b0, 0, none⟩ = some (.int .i64 ix) := d0
      clear d1
      refine wp_region_noPanic ?_
      refine region_g 16 (fun W => W.cell? ⟨g, 4, none⟩ = some (.slice A1 (mm + q) c1) ∧ W.cell? ⟨b0, 0, none⟩ = some (.int .i64 ix) ∧ W.cell? ⟨g, 0, none⟩ = some (.int .i64 rx)) (by kernel_rfl) ?_
      generalize k9.drew = k6 at *
      have hHeld : (fun W : World => W.cell? ⟨g, 4, none⟩ = some (.slice A1 (mm + q) c1) ∧ W.cell? ⟨b0, 0, none⟩ = some (.int .i64 ix) ∧ W.cell? ⟨g, 0, none⟩ = some (.int .i64 rx)) k6 := ⟨k4, d0, k0⟩
      refine tkL 0 (.pointer (some ⟨g, 0, none⟩)) rfl (fun w hSw => ?_) ?_
      · (try dsimp only at hSw)
        obtain ⟨q0, q1, q2⟩ := hSw
        go_simp
      try simp only [Act.put, List.setIfInBounds_toArray, List.set_cons_zero, List.set_cons_succ]
      refine tkL 1 (.pointer (some ⟨g, 0, none⟩)) rfl (fun w hSw => ?_) ?_
      · (try dsimp only at hSw)
        obtain ⟨q0, q1, q2⟩ := hSw
        go_simp
      try simp only [Act.put, List.setIfInBounds_toArray, List.set_cons_zero, List.set_cons_succ]
      refine tkL 2 (.pointer (some ⟨g, 0, none⟩)) rfl (fun w hSw => ?_) ?_
      · (try dsimp only at hSw)
        obtain ⟨q0, q1, q2⟩ := hSw
        go_simp
      try simp only [Act.put, List.setIfInBounds_toArray, List.set_cons_zero, List.set_cons_succ]
      refine tkL 3 (.pointer (some ⟨g, 4, none⟩)) rfl (fun w hSw => ?_) ?_
      · (try dsimp only at hSw)
        obtain ⟨q0, q1, q2⟩ := hSw
        go_simp
      try simp only [Act.put, List.setIfInBounds_toArray, List.set_cons_zero, List.set_cons_succ]
      refine tkL 4 (.slice A1 (mm + q) c1) rfl (fun w hSw => ?_) ?_
      · (try dsimp only at hSw)
        obtain ⟨q0, q1, q2⟩ := hSw
        go_simp
      try simp only [Act.put, List.setIfInBounds_toArray, List.set_cons_zero, List.set_cons_succ]
      refine tkL 5 (.pointer (some ⟨b0, 0, none⟩)) rfl (fun w hSw => ?_) ?_
      · (try dsimp only at hSw)
        obtain ⟨q0, q1, q2⟩ := hSw
        go_simp
      try simp only [Act.put, List.setIfInBounds_toArray, List.set_cons_zero, List.set_cons_succ]
      refine tkL 6 (.int .i64 ix) rfl (fun w hSw => ?_) ?_
      · (try dsimp only at hSw)
        obtain ⟨q0, q1, q2⟩ := hSw
        go_simp
      try simp only [Act.put, List.setIfInBounds_toArray, List.set_cons_zero, List.set_cons_succ]
      refine tkL 7 (.pointer (some ⟨g, 0, none⟩)) rfl (fun w hSw => ?_) ?_
      · (try dsimp only at hSw)
        obtain ⟨q0, q1, q2⟩ := hSw
        go_simp
      try simp only [Act.put, List.setIfInBounds_toArray, List.set_cons_zero, List.set_cons_succ]
      refine tkL 8 (.pointer (some ⟨g, 0, none⟩)) rfl (fun w hSw => ?_) ?_
      · (try dsimp only at hSw)
        obtain ⟨q0, q1, q2⟩ := hSw
        go_simp
      try simp only [Act.put, List.setIfInBounds_toArray, List.set_cons_zero, List.set_cons_succ]
      refine tkL 9 (.pointer (some ⟨g, 0, none⟩)) rfl (fun w hSw => ?_) ?_
      · (try dsimp only at hSw)
        obtain ⟨q0, q1, q2⟩ := hSw
        go_simp
      try simp only [Act.put, List.setIfInBounds_toArray, List.set_cons_zero, List.set_cons_succ]
      refine tkL 10 (.pointer (some ⟨g, 0, none⟩)) rfl (fun w hSw => ?_) ?_
      · (try dsimp only at hSw)
        obtain ⟨q0, q1, q2⟩ := hSw
        go_simp
      try simp only [Act.put, List.setIfInBounds_toArray, List.set_cons_zero, List.set_cons_succ]
      refine tkL 11 (.int .i64 rx) rfl (fun w hSw => ?_) ?_
      · (try dsimp only at hSw)
        obtain ⟨q0, q1, q2⟩ := hSw
        go_simp
      try simp only [Act.put, List.setIfInBounds_toArray, List.set_cons_zero, List.set_cons_succ]
      refine tkL 12 (.int .i64 q) rfl (fun w hSw => ?_) ?_
      · (try dsimp only at hSw)
        obtain ⟨q0, q1, q2⟩ := hSw
        go_simp
      try simp only [Act.put, List.setIfInBounds_toArray, List.set_cons_zero, List.set_cons_succ]
      refine stM 13 rfl (fun K hK => ?_)
      go_simp
      go_at_call 50
      refine (ldelete_any A1 mm c1 q r.L k6 (by have := HK6.out.own; rw [HN.out] at this; exact this) hq1 (by rw [HN.out]; omega)).mono ?_
      rintro e k10 ⟨v10, rfl, hO10, hG10⟩
      have hown : ∀ j, (Value.slice A1 (mm + q) c1).ownBlock = some j → j ≠ g ∧ j ≠ b0 ∧ ¬ N j := fun j hj => by
        have hj2 : (Value.slice A1 r.L.length c1).ownBlock = some j := by rw [HN.out]; exact hj
        refine ⟨fun e => ?_, fun e => ?_, HV.out j hj2⟩
        · subst e; exact HL.out.ne hj2
        · have := (HL.out.own.lt j hj2).2; omega
      have hx10 : Rt k10 g 72 (lcs13 r (.slice A1 (mm + q) c1)) := by
        have := (hG10.1.block g HK6.out.box.lt (fun e => (hown g e.symm).1 rfl)).trans HK6.out.box
        rw [HN.out] at this; exact this
      have hy10 : Rt k10 b0 23 [.int .i64 ix, .int .i64 st, .string cf, .string dt] := (hG10.1.block b0 HY6.out.lt (fun e => (hown b0 e.symm).2.1 rfl)).trans HY6.out
      have ho10 : Std N w k10 := (Std.of_below hb6).grown hG10.1 (fun j hj => .inl (hown j hj).2.2)
      have hnew : ∀ j, v10.ownBlock = some j → ¬ N j := by
        intro j hj hn
        rcases hG10.2 with e | e
        · exact (hown j (e ▸ hj)).2.2 hn
        · rw [e] at hj; injection hj with hj
          have := hN j hn
          have := hb6.size
          omega
      have hdl : (r.L.drop q).length = mm := by rw [List.length_drop, HN.out]; omega
      obtain ⟨A10, c10, hv10⟩ := hO10.slice
      rw [hdl] at hv10
      subst hv10
      have k4 := hx10.cell (j := 4) (v := .slice A1 (mm + q) c1) rfl
      have k0 := hx10.cell (j := 0) (v := .int .i64 rx) (by rw [← HRX.out]; rfl)
      have d0 := hy10.cell (j := 0) rfl
      have f4 := hx10.frz 4
      have hx11 := hx10.set 4 (.slice A10 mm c10)
      have hgb : g ≠ b0 := by have := HL.out.box.lt; omega
      have hy11 := hy10.other (g' := g) 4 (.slice A10 mm c10) (Ne.symm hgb)
      have ho11 : Std N w (k10.setCell ⟨g, 4, none⟩ (.slice A10 mm c10)) := Off.set ho10 (.inl hg)
      have hO11 : OwnEn 0 (.slice A10 mm c10) (r.L.drop q) (k10.setCell ⟨g, 4, none⟩ (.slice A10 mm c10)) := hO10.off (S := fun j => j = g) ((Off.refl _ k10).set (.inl rfl)) (fun j hj e => by subst e; exact own_ne11 log_ne_entry hx10 hO10 hj)
      have HX11 := Lib.hid hx11
      have HY11 := Lib.hid hy11
      have HO11 := Lib.hid ho11
      have HW11 := Lib.hid hO11
      clear hx11 ho11 hO11 hO10 hG10 ho10 hy11 hy10 hx10
      clear hHeld
      have hHeld : (fun W : World => W.cell? ⟨g, 4, none⟩ = some (.slice A1 (mm + q) c1) ∧ W.cell? ⟨b0, 0, none⟩ = some (.int .i64 ix) ∧ W.cell? ⟨g, 0, none⟩ = some (.int .i64 rx)) _ := ⟨k4, d0, k0⟩
      refine hK.out _ _ (.inr hHeld) ?_
      clear hK K
      try simp only [Act.put, List.setIfInBounds_toArray, List.set_cons_zero, List.set_cons_succ]
      refine stM 14 rfl (fun K hK => ?_)
      go_simp
      clear hHeld
      have hHeld : (fun W : World => W.cell? ⟨g, 4, none⟩ = some (.slice A1 (mm + q) c1) ∧ W.cell? ⟨b0, 0, none⟩ = some (.int .i64 ix) ∧ W.cell? ⟨g, 0, none⟩ = some (.int .i64 rx)) _ := ⟨k4, d0, k0⟩
      refine hK.out _ _ (.inr hHeld) ?_
      clear hK K
      try simp only [Act.put, List.setIfInBounds_toArray, List.set_cons_zero, List.set_cons_succ]
      refine stM 15 rfl (fun K hK => ?_)
      go_simp
      clear hHeld
      have hHeld : (fun W : World => W.cell? ⟨g, 4, none⟩ = some (.slice A1 (mm + q) c1) ∧ W.cell? ⟨b0, 0, none⟩ = some (.int .i64 ix) ∧ W.cell? ⟨g, 0, none⟩ = some (.int .i64 rx)) _ := ⟨k4, d0, k0⟩
      refine hK.out _ _ (.inr hHeld) ?_
      clear hK K
      try simp only [Act.put, List.setIfInBounds_toArray, List.set_cons_zero, List.set_cons_succ]
      refine stM 16 rfl (fun K hK => ?_)
      go_simp
      obtain ⟨W11, hW11⟩ : ∃ W11, k10.setCell ⟨g, 4, none⟩ (.slice A10 mm c10) = W11 := ⟨_, rfl⟩
      rw [hW11]
      rw [hW11] at HX11 HO11 HW11 HY11
      clear hW11
      refine hK.out _ _ (.inl (by decide)) ?_
      clear hK K
      try simp only [Act.put, List.setIfInBounds_toArray, List.set_cons_zero, List.set_cons_succ]
      refine anyG_done (by kernel_rfl) ?_ _
      refine NoPanic.normal ?_
      clear k4 k0 d0 f4
      have d0 := HY11.out.cell (j := 0) rfl
      have d1 := HY11.out.cell (j := 1) rfl
      have d2 := HY11.out.cell (j := 2) rfl
      have d3 := HY11.out.cell (j := 3) rfl
      go_wp2_with fail
      refine (HC.out _).mono ?_
      rintro e k12 ⟨rfl, h12⟩
      have hx12 := HX11.out.below h12
      have ho12 := HO11.out.trans (Std.of_below h12)
      have hw12 := HW11.out.below h12
      have c0 := hx12.cell (j := 0) rfl
      have c1' := hx12.cell (j := 1) rfl
      have c2 := hx12.cell (j := 2) rfl
      have c3 := hx12.cell (j := 3) rfl
      have f0 := hx12.frz 0
      have f1 := hx12.frz 1
      have f2 := hx12.frz 2
      have f3 := hx12.frz 3
      have hx13 := (((hx12.set 0 (.int .i64 ix)).set 1 (.int .i64 st)).set 2 (.string cf)).set 3 (.string dt)
      have ho13 : Std N w ((((k12.setCell ⟨g, 0, none⟩ (.int .i64 ix)).setCell ⟨g, 1, none⟩ (.int .i64 st)).setCell ⟨g, 2, none⟩ (.string cf)).setCell ⟨g, 3, none⟩ (.string dt)) := Off.set (Off.set (Off.set (Off.set ho12 (.inl hg)) (.inl hg)) (.inl hg)) (.inl hg)
      have hsg : Off (fun j => j = g) k12 ((((k12.setCell ⟨g, 0, none⟩ (.int .i64 ix)).setCell ⟨g, 1, none⟩ (.int .i64 st)).setCell ⟨g, 2, none⟩ (.string cf)).setCell ⟨g, 3, none⟩ (.string dt)) := Off.set (Off.set (Off.set (Off.set (Off.refl _ k12) (.inl rfl)) (.inl rfl)) (.inl rfl)) (.inl rfl)
      have hw13 := hw12.off hsg (fun j hj e => by subst e; exact own_ne11 log_ne_entry hx12 hw12 hj)
      obtain ⟨W13, hW13⟩ : ∃ W13, (((k12.setCell ⟨g, 0, none⟩ (.int .i64 ix)).setCell ⟨g, 1, none⟩ (.int .i64 st)).setCell ⟨g, 2, none⟩ (.string cf)).setCell ⟨g, 3, none⟩ (.string dt) = W13 := ⟨_, rfl⟩
      rw [hW13] at hx13 ho13 hw13
      have HX13 := Lib.hid hx13
      have HO13 := Lib.hid ho13
      have HW13 := Lib.hid hw13
      have HE13 := Lib.hid hW13
      clear hx12 hx13 ho12 ho13 hw12 hw13 hsg hW13 h12
      go_wp2
      rw [HE13.out]
      go_ret
      have hdr : r.L.drop (ix - rx).toNat = r.L.drop q := by rw [HQ.out, Int.toNat_natCast]
      exact ⟨rfl, ⟨HOK.out, ⟨_, ⟨HX13.out, by rw [hdr]; exact HW13.out⟩, hnew⟩, hg, fun j hj => Nat.lt_of_lt_of_le (hN j hj) HO13.out.size⟩, HO13.out⟩
  · have hp2 : (r, false) = (r', b) := by
      rw [← HP.out]; unfold pck13
      rw [if_neg (by rintro ⟨h, _⟩; rw [HRX.out] at h; exact hlt h)]
    injection hp2 with e1 e2
    subst e1; subst e2
    go_wp2_with fail
    have hb1 : Below w.heap.size w W0.drew := hb1.drew
    have hy : Rt W0.drew b0 23 [.int .i64 ix, .int .i64 st, .string cf, .string dt] := HY.out
    replace hgl : g < W0.drew.heap.size := Nat.lt_of_lt_of_le hgl hb1.size
    replace k0 : W0.drew.cell? ⟨g, 0, none⟩ = some (.int .i64 rx) := k0
    replace d0 : W0.drew.cell? ⟨b0, 0, none⟩ = some (.int .i64 ix) := d0
    replace d1 : W0.drew.cell? ⟨b0, 1, none⟩ = some (.int .i64 st) := d1
    refine wp_region_noPanic ?_
    refine wp_region_held_drew (S := fun W => W.cell? ⟨g, 0, none⟩ = some (.int .i64 rx) ∧ W.cell? ⟨b0, 0, none⟩ = some (.int .i64 ix) ∧ W.cell? ⟨b0, 1, none⟩ = some (.int .i64 st)) (by kernel_rfl) ?_ (fun hHeld => ?_)
    · exact ⟨k0, d0, d1⟩
    generalize W0.drew = k5 at *
    refine tkH 0 (.pointer (some ⟨g, 0, none⟩)) rfl (fun w hSw => ?_) ?_
    · (try dsimp only at hSw)
      obtain ⟨q0, q1, q2⟩ := hSw
      go_simp
    try simp only [Act.put, List.setIfInBounds_toArray, List.set_cons_zero, List.set_cons_succ]
    refine tkH 1 (.bool false) rfl (fun w hSw => ?_) ?_
    · (try dsimp only at hSw)
      obtain ⟨q0, q1, q2⟩ := hSw
      go_simp
    try simp only [Act.put, List.setIfInBounds_toArray, List.set_cons_zero, List.set_cons_succ]
    refine tkH 2 (.bool false) rfl (fun w hSw => ?_) ?_
    · (try dsimp only at hSw)
      obtain ⟨q0, q1, q2⟩ := hSw
      go_simp
    try simp only [Act.put, List.setIfInBounds_toArray, List.set_cons_zero, List.set_cons_succ]
    refine tkH 3 (.pointer (some ⟨b0, 0, none⟩)) rfl (fun w hSw => ?_) ?_
    · (try dsimp only at hSw)
      obtain ⟨q0, q1, q2⟩ := hSw
      go_simp
    try simp only [Act.put, List.setIfInBounds_toArray, List.set_cons_zero, List.set_cons_succ]
    refine tkH 4 (.int .i64 ix) rfl (fun w hSw => ?_) ?_
    · (try dsimp only at hSw)
      obtain ⟨q0, q1, q2⟩ := hSw
      go_simp
    try simp only [Act.put, List.setIfInBounds_toArray, List.set_cons_zero, List.set_cons_succ]
    refine tkH 5 (.pointer (some ⟨g, 0, none⟩)) rfl (fun w hSw => ?_) ?_
    · (try dsimp only at hSw)
      obtain ⟨q0, q1, q2⟩ := hSw
      go_simp
    try simp only [Act.put, List.setIfInBounds_toArray, List.set_cons_zero, List.set_cons_succ]
    refine tkH 6 (.pointer (some ⟨g, 0, none⟩)) rfl (fun w hSw => ?_) ?_
    · (try dsimp only at hSw)
      obtain ⟨q0, q1, q2⟩ := hSw
      go_simp
    try simp only [Act.put, List.setIfInBounds_toArray, List.set_cons_zero, List.set_cons_succ]
    refine tkH 7 (.pointer (some ⟨g, 0, none⟩)) rfl (fun w hSw => ?_) ?_
    · (try dsimp only at hSw)
      obtain ⟨q0, q1, q2⟩ := hSw
      go_simp
    try simp only [Act.put, List.setIfInBounds_toArray, List.set_cons_zero, List.set_cons_succ]
    refine tkH 8 (.pointer (some ⟨g, 0, none⟩)) rfl (fun w hSw => ?_) ?_
    · (try dsimp only at hSw)
      obtain ⟨q0, q1, q2⟩ := hSw
      go_simp
    try simp only [Act.put, List.setIfInBounds_toArray, List.set_cons_zero, List.set_cons_succ]
    refine tkH 9 (.int .i64 rx) rfl (fun w hSw => ?_) ?_
    · (try dsimp only at hSw)
      obtain ⟨q0, q1, q2⟩ := hSw
      go_simp
    try simp only [Act.put, List.setIfInBounds_toArray, List.set_cons_zero, List.set_cons_succ]
    refine tkH 10 (.bool true) rfl (fun w hSw => ?_) ?_
    · (try dsimp only at hSw)
      obtain ⟨q0, q1, q2⟩ := hSw
      go_simp
    try simp only [Act.put, List.setIfInBounds_toArray, List.set_cons_zero, List.set_cons_succ]
    refine tkH 11 (.bool true) rfl (fun w hSw => ?_) ?_
    · (try dsimp only at hSw)
      obtain ⟨q0, q1, q2⟩ := hSw
      go_simp
    try simp only [Act.put, List.setIfInBounds_toArray, List.set_cons_zero, List.set_cons_succ]
    refine tkH 12 (.bool true) rfl (fun w hSw => ?_) ?_
    · (try dsimp only at hSw)
      obtain ⟨q0, q1, q2⟩ := hSw
      go_simp
    try simp only [Act.put, List.setIfInBounds_toArray, List.set_cons_zero, List.set_cons_succ]
    refine skH 13 rfl ?_
    try simp only [Act.put, List.setIfInBounds_toArray, List.set_cons_zero, List.set_cons_succ]
    refine skH 14 rfl ?_
    try simp only [Act.put, List.setIfInBounds_toArray, List.set_cons_zero, List.set_cons_succ]
    refine skH 15 rfl ?_
    try simp only [Act.put, List.setIfInBounds_toArray, List.set_cons_zero, List.set_cons_succ]
    refine skH 16 rfl ?_
    try simp only [Act.put, List.setIfInBounds_toArray, List.set_cons_zero, List.set_cons_succ]
    refine skH 17 rfl ?_
    try simp only [Act.put, List.setIfInBounds_toArray, List.set_cons_zero, List.set_cons_succ]
    refine skH 18 rfl ?_
    try simp only [Act.put, List.setIfInBounds_toArray, List.set_cons_zero, List.set_cons_succ]
    refine skH 19 rfl ?_
    try simp only [Act.put, List.setIfInBounds_toArray, List.set_cons_zero, List.set_cons_succ]
    refine tkH 20 (.bool true) rfl (fun w hSw => ?_) ?_
    · (try dsimp only at hSw)
      obtain ⟨q0, q1, q2⟩ := hSw
      go_simp
    try simp only [Act.put, List.setIfInBounds_toArray, List.set_cons_zero, List.set_cons_succ]
    refine wpAnyH_done (by kernel_rfl) ?_ _
    refine NoPanic.normal ?_
    go_wp2
    go_ret
    exact ⟨rfl, ⟨HOK.out, ⟨_, HL.out.below hb1, HV.out⟩, hg, fun j hj => Nat.lt_of_lt_of_le (hN j hj) hb1.size⟩, Std.of_below hb1⟩
end Go.Proofs.Ytoekiencnbgmhaa
/-
  The reference's EqEntries: two slices of entries.
  The conditions: both are no longer than 220.
-/
set_option linter.unusedSimpArgs false
set_option linter.unusedVariables false
namespace Go.Proofs.Ytoekiencnbgmhaa
open Go.RowKit Go.Deep
set_option maxRecDepth 100000

def eqEs11 : List Ent → List Ent → Bool
  | [], [] => true
  | a :: l, b :: m => eqEnt10 a b && eqEs11 l m
  | _, _ => false
theorem eqEnt10_self (a : Ent) : eqEnt10 a a = true := by simp [eqEnt10]
theorem eqEs11_self (l : List Ent) : eqEs11 l l = true := by
  induction l with
  | nil => rfl
  | cons a t ih => simp [eqEs11, eqEnt10_self, ih]
theorem eqEs11_drop {a b : List Ent} (k : Nat) (h1 : k < a.length) (h2 : k < b.length) : eqEs11 (a.drop k) (b.drop k) = (eqEnt10 (a[k]'h1) (b[k]'h2) && eqEs11 (a.drop (k + 1)) (b.drop (k + 1))) := by
  rw [List.drop_eq_getElem_cons h1, List.drop_eq_getElem_cons h2]
  rfl
theorem eqEs11_len {a : List Ent} : ∀ {b : List Ent}, a.length ≠ b.length → eqEs11 a b = false := by
  induction a with
  | nil => intro b h; cases b with
    | nil => exact absurd rfl h
    | cons x t => rfl
  | cons y l ih => intro b h; cases b with
    | nil => rfl
    | cons x t => simp only [eqEs11]; rw [ih (fun e => h (by simp [e]))]; simp
set_option maxHeartbeats 1000000 in
theorem reqEnts_any (N M : Nat → Prop) (A C : Option Addr) (c d : Nat) (a b : List Ent) (w : World) (ha : Ens N w (.slice A a.length c) a) (hb : Ens M w (.slice C b.length d) b) (hl : a.length ≤ 1000) :
    Calls Try.prog 23 #[.slice A a.length c, .slice C b.length d] w (Bl (eqEs11 a b) w) := by
  have HA := Lib.hid ha
  have HC := Lib.hid hb
  clear ha hb
  by_cases hlen : a.length = b.length
  · obtain ⟨n, hn⟩ : ∃ n, b.length = n := ⟨_, rfl⟩
    rw [hn] at HC hlen ⊢
    rw [hlen] at HA hl ⊢
    have HN := Lib.hid (And.intro hlen hn)
    clear hlen hn
    go_enter Try.func23, Try.ntmps23
    go_wp2_with fail
    go_loopw [5] (fun i wr => ∃ k : Nat, i = .int .i64 (k : Int) ∧ k ≤ n ∧ eqEs11 (a.drop k) (b.drop k) = eqEs11 a b ∧ Below w.heap.size w wr) (fun i _ => n - (intOf i).toNat)
    case atStart => exact ⟨0, rfl, by omega, rfl, Below.refl _ _⟩
    case round =>
      obtain ⟨k, rfl, hk, he, hb⟩ := hrel
      have HE := Lib.hid he
      have HB := Lib.hid hb
      clear he hb
      by_cases hlt : k < n
      · have hki : (k : Int) < n := by omega
        have h1 : k < a.length := by rw [HN.out.1]; exact hlt
        have h2 : k < b.length := by rw [HN.out.2]; exact hlt
        have hdr := eqEs11_drop k h1 h2
        obtain ⟨x, hx⟩ : ∃ x, a[k]'h1 = x := ⟨_, rfl⟩
        obtain ⟨y, hy⟩ : ∃ y, b[k]'h2 = y := ⟨_, rfl⟩
        rw [hx, hy] at hdr
        have hq := fun W => reqEntry_any x y W
        obtain ⟨ix, et, kd, dt⟩ := x
        obtain ⟨jx, jt, jk, jd⟩ := y
        obtain ⟨g, o, rfl, hg, c0, c1, c2, c3⟩ := (HA.out.below HB.out).four k h1 hx
        obtain ⟨g', o', rfl, hg', d0, d1, d2, d3⟩ := (HC.out.below HB.out).four k h2 hy
        obtain ⟨bq, hbq⟩ : ∃ bq, eqEnt10 ⟨ix, et, kd, dt⟩ ⟨jx, jt, jk, jd⟩ = bq := ⟨_, rfl⟩
        simp only [hbq] at hq hdr
        have HQ := Lib.hid hq
        have HD := Lib.hid hdr
        clear hq hdr hx hy h1 h2 hbq
        replace HB := Lib.hid HB.out.drew
        go_wp2_with fail
        go_region_held3 (fun W => W.cell? ⟨g, o + k * 4, none⟩ = some (.int .i64 ix) ∧ W.cell? ⟨g, o + k * 4 + 1, none⟩ = some (.int .i64 et) ∧ W.cell? ⟨g, o + k * 4 + 2, none⟩ = some (.int .i64 kd) ∧ W.cell? ⟨g, o + k * 4 + 3, none⟩ = some (.string dt) ∧ W.cell? ⟨g', o' + k * 4, none⟩ = some (.int .i64 jx) ∧ W.cell? ⟨g', o' + k * 4 + 1, none⟩ = some (.int .i64 jt) ∧ W.cell? ⟨g', o' + k * 4 + 2, none⟩ = some (.int .i64 jk) ∧ W.cell? ⟨g', o' + k * 4 + 3, none⟩ = some (.string jd)) (first | exact ⟨c0, c1, c2, c3, d0, d1, d2, d3⟩ | assumption) (first | (go_at_call 53; refine (HQ.out _).mono ?_; rintro e k9 ⟨rfl, h⟩; replace c0 := (h.cell (p := ⟨g, o + k * 4, none⟩) hg).trans c0; replace c1 := (h.cell (p := ⟨g, o + k * 4 + 1, none⟩) hg).trans c1; replace c2 := (h.cell (p := ⟨g, o + k * 4 + 2, none⟩) hg).trans c2; replace c3 := (h.cell (p := ⟨g, o + k * 4 + 3, none⟩) hg).trans c3; replace d0 := (h.cell (p := ⟨g', o' + k * 4, none⟩) hg').trans d0; replace d1 := (h.cell (p := ⟨g', o' + k * 4 + 1, none⟩) hg').trans d1; replace d2 := (h.cell (p := ⟨g', o' + k * 4 + 2, none⟩) hg').trans d2; replace d3 := (h.cell (p := ⟨g', o' + k * 4 + 3, none⟩) hg').trans d3; replace HB := Lib.hid (HB.out.trans (h.mono HB.out.size)); clear h))
        cases bq with
        | false =>
          go_wp2_with fail
          go_ret
          have hz : eqEs11 a b = false := by rw [← HE.out, HD.out, Bool.false_and]
          exact ⟨by rw [hz]; rfl, HB.out⟩
        | true =>
          go_wp2_with fail
          go_roundw
          case rel => exact ⟨k + 1, by go_num, by omega, by rw [← HE.out, HD.out, Bool.true_and], HB.out⟩
          case measure => simp [intOf]; omega
      · have hge : (n : Int) ≤ k := by omega
        have hkn : k = n := by omega
        subst hkn
        have hz : eqEs11 a b = true := by
          rw [← HE.out, List.drop_of_length_le (by rw [HN.out.1]; omega), List.drop_of_length_le (by rw [HN.out.2]; omega)]
          rfl
        go_wp2_with fail
        go_ret
        exact ⟨by rw [hz]; rfl, HB.out⟩
  · have hz := eqEs11_len hlen
    rw [hz]
    have hli : ((a.length : Int) != (b.length : Int)) = true := by
      rw [bne_iff_ne]; omega
    have hlj : ¬ ((a.length : Int) = (b.length : Int)) := by omega
    go_enter Try.func23, Try.ntmps23
    go_wp2_with fail
    go_ret
    exact ⟨rfl, Below.refl _ _⟩
end Go.Proofs.Ytoekiencnbgmhaa
/-
  A log as the laws hold it: none of its blocks is one of those that must stand; what is asked of it, and steps on it.
  There are no conditions beyond those that each lemma names.
-/
set_option linter.unusedSimpArgs false
set_option linter.unusedVariables false
namespace Go.Proofs.Ytoekiencnbgmhaa
open Go.RowKit Go.Deep
set_option maxRecDepth 100000

section
variable {N : Nat → Prop} {m : Nat} {w : World} {g : Nat} {r : Lg}
theorem first_lk (h : LK N m w g r) (hm : m ≤ 900000) (i : Int) (hi : r.s.ix + 1 = i) : Calls Try.prog 37 #[.pointer (some ⟨g, 0, none⟩)] w fun e w' => e = .returned (.int .i64 i) ∧ Below w.heap.size w w' := by
  obtain ⟨v, hL, hk⟩ := h.get (by omega)
  subst hi
  exact lfirst_any hL hk
theorem last_lk (h : LK N m w g r) (hm : m ≤ 900000) (i : Int) (hi : lst13 r = i) : Calls Try.prog 38 #[.pointer (some ⟨g, 0, none⟩)] w fun e w' => e = .returned (.int .i64 i) ∧ Below w.heap.size w w' := by
  obtain ⟨v, hL, hk⟩ := h.get (by omega)
  subst hi
  exact llast_any hL hk
theorem term_lk (h : LK N m w g r) (hm : m ≤ 900000) (i t : Int) (b : Bool) (ht : trm13 r i = (t, b)) : Calls Try.prog 17 #[.pointer (some ⟨g, 0, none⟩), .int .i64 i] w fun e w' => e = .returned (.tuple #[.int .i64 t, .bool b]) ∧ Below w.heap.size w w' := by
  obtain ⟨v, hL, hk⟩ := h.get (by omega)
  exact lterm_any hL hk i t b ht
theorem fits_lk (h : LK N m w g r) (hm : m ≤ 900000) (i t : Int) (b : Bool) (hb : fts13 r i t = b) : Calls Try.prog 19 #[.pointer (some ⟨g, 0, none⟩), .int .i64 i, .int .i64 t] w fun e w' => e = .returned (.bool b) ∧ Below w.heap.size w w' := by
  obtain ⟨v, hL, hk⟩ := h.get (by omega)
  exact lfits_any hL hk i t b hb
theorem newer_lk (h : LK N m w g r) (hm : m ≤ 900000) (i t : Int) (b : Bool) (hb : nwr13 r i t = b) : Calls Try.prog 21 #[.pointer (some ⟨g, 0, none⟩), .int .i64 i, .int .i64 t] w fun e w' => e = .returned (.bool b) ∧ Below w.heap.size w w' := by
  obtain ⟨v, hL, hk⟩ := h.get (by omega)
  exact lnewer_any hL hk i t b hb
theorem get_lk (h : LK N m w g r) (hm : m ≤ 900000) (i n : Int) (hn : -9223372036854775808 ≤ n ∧ n ≤ 9223372036854775807) (L : List Ent) (hL : get13 r i n = L) : Calls Try.prog 24 #[.pointer (some ⟨g, 0, none⟩), .int .i64 i, .int .i64 n] w fun e w' => ∃ A c, e = .returned (.slice A L.length c) ∧ OwnEn w.heap.size (.slice A L.length c) L w' ∧ Below w.heap.size w w' := by
  obtain ⟨v, hLB, hk⟩ := h.get (by omega)
  refine (lget_any hLB hk i n hn).mono ?_
  rintro e w' ⟨v', rfl, hO, hb⟩
  rw [hL] at hO
  obtain ⟨A, c, rfl⟩ := hO.slice
  exact ⟨A, c, rfl, hO, hb⟩
theorem snap_lk (h : LK N m w g r) (hm : m ≤ 900000) : Calls Try.prog 55 #[.pointer (some ⟨g, 0, none⟩)] w fun e w' => e = .returned r.s.val ∧ Below w.heap.size w w' := by
  obtain ⟨v, hL, hk⟩ := h.get (by omega)
  exact lsnap_any hL hk
end
/-- New: nil, or a log all of whose blocks are new -/
theorem new_lk (N : Nat → Prop) (s : Snp) (A : Option Addr) (n c : Nat) (L : List Ent) (w : World) (hN : ∀ j, N j → j < w.heap.size) (hE : Ens N w (.slice A n c) L) (hl : L.length ≤ 1000) (hix : -9223372036854775808 ≤ s.ix ∧ s.ix ≤ 9223372036854775807) (hd : ∀ e ∈ L, e.data.size ≤ 100000 ∧ -9223372036854775808 ≤ e.ix ∧ e.ix ≤ 9223372036854775807) (h1 : s.conf.size ≤ 100000) (h2 : s.data.size ≤ 100000) (b : Bool) (hb : new13 s L = b) :
    Calls Try.prog 10 #[s.val, .slice A n c] w fun e w' => Below w.heap.size w w' ∧ ((b = false ∧ e = .returned (.pointer none)) ∨ (b = true ∧ ∃ g, e = .returned (.pointer (some ⟨g, 0, none⟩)) ∧ LK N 200 w' g ⟨s, L⟩)) := by
  refine (lnew_any N s A n c L w hE hl hix hd h1 h2 b hb).mono ?_
  rintro e w' ⟨hB, h | ⟨hb2, g, v, rfl, hg, hO, hL⟩⟩
  · exact ⟨hB, .inl h⟩
  · subst hb2
    refine ⟨hB, .inr ⟨rfl, g, rfl, new13_ok hb (fun e he => (hd e he).1) h1 h2, ⟨v, hL, fun j hj hn => ?_⟩, fun hn => ?_, fun j hj => Nat.lt_of_lt_of_le (hN j hj) hB.size⟩⟩
    · have := (hO.lt j hj).1
      have := hN j hn
      omega
    · have := hN g hn
      omega
/-- a row of entries that was laid -/
theorem ens_at {w k : World} (cs : List Value) (t : TypeId) (L : List Ent) (n : Nat) (hc : cs = L.flatMap Ent.cs) (hn : L.length = n) (hk : w.alloc (.cells cs.toArray t) = k) : Ens (fun j => j = w.heap.size) k (.slice (some ⟨w.heap.size, 0, none⟩) n n) L := by
  subst hn
  refine ⟨_, _, rfl, Nat.le_refl _, fun _ => ⟨_, 0, rfl, rfl, fun j hj i z hz => ?_⟩⟩
  have hR : Rt k w.heap.size t cs := by rw [← hk]; exact Rt.new _ _ _
  have := eflat_at L j hj i z hz
  rw [← hc] at this
  have := hR.cell this
  rw [← this]
  congr 2; omega
/-- what stands, and new blocks -/
abbrev Nw (N : Nat → Prop) (w w' : World) : Nat → Prop := fun j => N j ∨ (w.heap.size ≤ j ∧ j < w'.heap.size)
end Go.Proofs.Ytoekiencnbgmhaa
/-
  Law 13's begun.
  There are no conditions.
-/
set_option linter.unusedSimpArgs false
set_option linter.unusedVariables false
namespace Go.Proofs.Ytoekiencnbgmhaa
open Go.RowKit Go.Deep
set_option maxRecDepth 100000

def bgS : Snp := ⟨4, 2, ⟨#[]⟩, ⟨#[]⟩⟩
def bgA : Lg := ⟨bgS, [⟨5, 2, 0, ⟨#[]⟩⟩, ⟨6, 3, 0, ⟨#[]⟩⟩]⟩
def bgB : Lg := ⟨bgS, [⟨5, 2, 0, ⟨#[]⟩⟩, ⟨6, 4, 0, ⟨#[]⟩⟩, ⟨7, 4, 0, ⟨#[]⟩⟩]⟩
def bgC : Lg := ⟨⟨6, 4, ⟨#[]⟩, ⟨#[]⟩⟩, [⟨7, 4, 0, ⟨#[]⟩⟩]⟩
theorem bg_new : new13 bgS [⟨5, 2, 0, ⟨#[]⟩⟩, ⟨6, 3, 0, ⟨#[]⟩⟩] = true := by decide
theorem bg_put : put13 bgA [⟨6, 4, 0, ⟨#[]⟩⟩, ⟨7, 4, 0, ⟨#[]⟩⟩] = (bgB, 6, true) := by rfl
theorem bg_pack : pck13 bgB ⟨6, 4, ⟨#[]⟩, ⟨#[]⟩⟩ = (bgC, true) := by rfl
set_option maxHeartbeats 1000000 in
theorem begun13_any (w : World) : Calls Try.prog 7 #[] w fun e w' => e = .returned (.bool true) ∧ Below w.heap.size w w' := by
  obtain ⟨k1, hk1⟩ : ∃ k1, w.alloc (.cells #[.int .i64 5, .int .i64 2, .int .i64 0, .string ⟨#[]⟩, .int .i64 6, .int .i64 3, .int .i64 0, .string ⟨#[]⟩] 65) = k1 := ⟨_, rfl⟩
  have hb1 : Below w.heap.size w k1 := by rw [← hk1]; exact below_new _ _
  have hE1 := ens_at [.int .i64 5, .int .i64 2, .int .i64 0, .string ⟨#[]⟩, .int .i64 6, .int .i64 3, .int .i64 0, .string ⟨#[]⟩] 65 [⟨5, 2, 0, ⟨#[]⟩⟩, ⟨6, 3, 0, ⟨#[]⟩⟩] 2 rfl rfl hk1
  have HE1 := Lib.hid hE1
  clear hE1
  go_enter Try.func7, Try.ntmps7
  go_wp2_with fail
  refine (new_lk (fun j => j < k1.heap.size) bgS _ 2 2 [⟨5, 2, 0, ⟨#[]⟩⟩, ⟨6, 3, 0, ⟨#[]⟩⟩] k1 (fun _ h => h) (HE1.out.mono fun j hj hl => hl) (by decide) (by decide) (by decide) (by decide) (by decide) true bg_new).mono ?_
  rintro e w1 ⟨hb2, ⟨h, _⟩ | ⟨_, g, rfl, hL1⟩⟩
  · cases h
  have hb2 := hb1.trans (hb2.mono hb1.size)
  have HL1 := Lib.hid (show LK _ 200 w1 g bgA from hL1)
  obtain ⟨k2, hk2⟩ : ∃ k2, w1.alloc (.cells #[.int .i64 6, .int .i64 4, .int .i64 0, .string ⟨#[]⟩, .int .i64 7, .int .i64 4, .int .i64 0, .string ⟨#[]⟩] 65) = k2 := ⟨_, rfl⟩
  have hb3 : Below w1.heap.size w1 k2 := by rw [← hk2]; exact below_new _ _
  have HE2 := Lib.hid (ens_at [.int .i64 6, .int .i64 4, .int .i64 0, .string ⟨#[]⟩, .int .i64 7, .int .i64 4, .int .i64 0, .string ⟨#[]⟩] 65 [⟨6, 4, 0, ⟨#[]⟩⟩, ⟨7, 4, 0, ⟨#[]⟩⟩] 2 rfl rfl hk2)
  have HL2 := Lib.hid (HL1.out.others hb3)
  have hz1 := hb1.size
  have hb4 := hb2.trans (hb3.mono hb2.size)
  clear hL1 HL1 HE1 hb1 hk1
  go_wp2_with fail
  refine (lPut_any _ 200 _ 2 2 [⟨6, 4, 0, ⟨#[]⟩⟩, ⟨7, 4, 0, ⟨#[]⟩⟩] HL2.out (by decide) (HE2.out.mono fun j hj hl => .inr ⟨by omega, hl⟩) (by decide) (by decide) bgB 6 true bg_put).mono ?_
  rintro e w2 ⟨rfl, hL3, hS3⟩
  have HL3 := Lib.hid hL3
  have hb5 : Below w.heap.size w w2 := hb4.trans (hS3.below hb4.size fun j hj => .inl (by omega))
  clear hL3 hS3 HL2 HE2 hb2 hb3 hb4 hk2
  go_wp2_with fail
  refine (term_lk HL3.out (by decide) 6 4 true (by rfl)).mono ?_
  rintro e w3 ⟨rfl, h⟩
  have HL4 := Lib.hid (HL3.out.below h)
  have hb6 := hb5.trans (h.mono hb5.size)
  clear HL3 hb5 h
  go_wp2_with fail
  refine (first_lk HL4.out (by decide) 5 rfl).mono ?_
  rintro e w4 ⟨rfl, h⟩
  have HL5 := Lib.hid (HL4.out.below h)
  have hb7 := hb6.trans (h.mono hb6.size)
  clear HL4 hb6 h
  go_wp2_with fail
  refine (last_lk HL5.out (by decide) 7 rfl).mono ?_
  rintro e w5 ⟨rfl, h⟩
  have HL6 := Lib.hid (HL5.out.below h)
  have hb8 := hb7.trans (h.mono hb7.size)
  clear HL5 hb7 h
  go_wp2_with fail
  refine (get_lk HL6.out (by decide) 6 9 (by decide) [⟨6, 4, 0, ⟨#[]⟩⟩, ⟨7, 4, 0, ⟨#[]⟩⟩] rfl).mono ?_
  rintro e w6 ⟨A9, c9, rfl, hO, h⟩
  have HL7 := Lib.hid (HL6.out.below h)
  have hb9 := hb8.trans (h.mono hb8.size)
  clear HL6 hb8 h hO
  go_wp2_with fail
  refine (fits_lk HL7.out (by decide) 4 2 true rfl).mono ?_
  rintro e w7 ⟨rfl, h⟩
  have HL8 := Lib.hid (HL7.out.below h)
  have hb10 := hb9.trans (h.mono hb9.size)
  clear HL7 hb9 h
  go_wp2_with fail
  refine (newer_lk HL8.out (by decide) 7 4 true rfl).mono ?_
  rintro e w8 ⟨rfl, h⟩
  have HL9 := Lib.hid (HL8.out.below h)
  have hb11 := hb10.trans (h.mono hb10.size)
  clear HL8 hb10 h
  go_wp2_with fail
  refine (newer_lk HL9.out (by decide) 6 4 false rfl).mono ?_
  rintro e w9 ⟨rfl, h⟩
  have HL10 := Lib.hid (HL9.out.below h)
  have hb12 := hb11.trans (h.mono hb11.size)
  clear HL9 hb11 h
  go_wp2_with fail
  refine (lpack_any HL10.out (by decide) ⟨6, 4, ⟨#[]⟩, ⟨#[]⟩⟩ (by decide) (by decide) bgC true bg_pack).mono ?_
  rintro e w10 ⟨rfl, hL, hS⟩
  have HL11 := Lib.hid hL
  have hb13 : Below w.heap.size w w10 := hb12.trans (hS.below hb12.size fun j hj => .inl (by omega))
  clear hL hS HL10 hb12
  go_wp2_with fail
  refine (first_lk HL11.out (by decide) 7 rfl).mono ?_
  rintro e w11 ⟨rfl, h⟩
  have HL12 := Lib.hid (HL11.out.below h)
  have hb14 := hb13.trans (h.mono hb13.size)
  clear HL11 hb13 h
  go_wp2
  go_ret
  exact ⟨rfl, hb14⟩
end Go.Proofs.Ytoekiencnbgmhaa
/-
  How a law's argument that is a row of entries is opened.
  There are no conditions.
-/
set_option linter.unusedSimpArgs false
set_option linter.unusedVariables false
namespace Go.Proofs.Ytoekiencnbgmhaa
open Go.RowKit Go.WideShapes Go.ChangeShapes Go.Joins Go.Deep
set_option maxRecDepth 100000

def Ent.fit (e : Ent) : Prop := I64b e.ix ∧ I64b e.et ∧ I64b e.kd ∧ e.data.size ≤ maxLen
section
variable {H : Type} {enc : TypeId × Value → H} {w : World} {base : Nat} {spare : Nat → Bool} {held : Bool}
theorem ent_cells {fuel : Nat} {cs : List Value} {x : DataW H × List MemPlace} (h : DataW.trod enc Try.prog w base spare held fuel 65 cs = some x) : ∃ e : Ent, cs = e.cs ∧ e.fit := by
  obtain ⟨a, b, c, s, rfl, w1, w2, w3, w4⟩ := entry_cells h
  exact ⟨⟨a, b, c, s⟩, rfl, w1, w2, w3, w4⟩
end
section
variable {H : Type} {enc : TypeId × Value → H} {W : World} {base b0 : Nat} {sp : Nat → Bool} {hd : Bool} {r : Reach} {v : Value} {d : DataW H} {p : List MemPlace}
theorem open_ents (hv : Value.okWide Try.prog W r b0 24 v) (h : DataW.Trod enc Try.prog W 0 (fun _ => true) true 24 v d p) :
    ∃ (A : Option Addr) (c : Nat) (L : List Ent), v = .slice A L.length c ∧ Ens (fun j => j < W.heap.size) W (.slice A L.length c) L ∧ ∀ b ∈ L, b.fit := by
  obtain ⟨a0, len, cap, rfl⟩ := okWide_slice Try.underlying24 hv
  obtain ⟨fuel, hf⟩ := h
  have hf2 : DataW.trod enc Try.prog W 0 (fun _ => true) true fuel 24 [.slice a0 len cap] = some (d, p) := by simpa [Value.cells] using hf
  rcases open_slice Try.underlying24 hf2 with ⟨hcs, _⟩ | ⟨a, len', cap', m, n, D, Pl, hcs, _, hl, hm, hmm, _, hx⟩
  · simp only [List.cons.injEq, and_true] at hcs
    injection hcs with e1 e2 e3
    subst e1; subst e2; subst e3
    exact ⟨none, 0, [], rfl, ⟨none, 0, rfl, Nat.le_refl _, fun h => absurd h (by decide)⟩, fun x hx => by cases hx⟩
  · simp only [List.cons.injEq, and_true] at hcs
    injection hcs with e1 e2 e3
    subst e1; subst e2; subst e3
    simp only [if_true] at hmm
    subst hmm
    rw [Try.cellsEntry10] at hx
    have hz : Inhabited Ent := ⟨noEnt⟩
    obtain ⟨f, hf⟩ := choose_lt (α := Ent) (p := fun i b => W.cells? 0 (a.add (i * 4)) 4 = some b.cs ∧ b.fit) (fun i (hi : i < len) => by
      obtain ⟨cs', h1, h2⟩ := hx i (by omega)
      obtain ⟨b, rfl, h4⟩ := ent_cells h2
      exact ⟨b, h1, h4⟩)
    have hln : ((List.range len).map f).length = len := by simp
    refine ⟨some a, m, (List.range len).map f, by rw [hln], ?_, fun x hx => ?_⟩
    · refine ⟨some a, m, rfl, by rw [hln]; exact hl, fun h0 => ?_⟩
      rw [hln] at h0
      obtain ⟨hc0, _⟩ := hf 0 h0
      obtain ⟨_, hl0, hcc⟩ := World.cells?_some hc0
      have hc := hcc 0 (by decide)
      obtain ⟨g, o, spot⟩ := a
      have hspot : spot = Option.none := by simpa [Addr.add] using World.cell?_spot hc
      subst hspot
      refine ⟨g, o, rfl, ?_, fun k hk => ?_⟩
      · have := cell_in10 hc; simpa [Addr.add] using this
      · rw [hln] at hk
        obtain ⟨h1, h3⟩ := hf k hk
        have e : ((List.range len).map f)[k]'(by rw [hln]; exact hk) = f k := by simp
        rw [e]
        refine fun j v hj => ?_
        obtain ⟨_, hli, hci⟩ := World.cells?_some h1
        have hj3 : j < 4 := (List.getElem?_eq_some_iff.1 hj).1
        have e2 : ((⟨g, o, Option.none⟩ : Addr).add (k * 4)).add j = ⟨g, o + k * 4 + j, Option.none⟩ := by
          rw [add_add]; unfold Addr.add; split
          · have h0 : k * 4 + j = 0 := by assumption
            have : o + k * 4 + j = o := by omega
            rw [this]
          · show (⟨g, o + (k * 4 + j), _⟩ : Addr) = _
            rw [Nat.add_assoc]
        rw [← e2, hci j hj3]; exact hj
    · obtain ⟨i, hi, rfl⟩ := List.mem_map.1 hx
      obtain ⟨h1, h3⟩ := hf i (List.mem_range.1 hi)
      exact h3
end
end Go.Proofs.Ytoekiencnbgmhaa
/-
  Entries of any slice put behind a row of one's own, in a walk.
  There are no conditions beyond those that each lemma names.
-/
set_option linter.unusedSimpArgs false
set_option linter.unusedVariables false
namespace Go.Proofs.Ytoekiencnbgmhaa
open Go.RowKit Go.Deep
set_option maxRecDepth 100000

theorem append_nilE {w : World} {B n c : Nat} {v : Value} {xs : List Value} (ty : TypeId) (hown : w.ownsRow B 65 4 v n xs) :
    (Builtin.append_ #[24, 24] ty #[v, .slice none 0 c]).run Try.prog w = .ok v w := by
  obtain ⟨iR, hiR, hz, hs, _⟩ := info_parts Try.infoEn
  rcases hown.2 with ⟨rfl, rfl⟩ | ⟨g, cap, cur, rfl, _, _, hnc, _⟩
  · simp [Builtin.append_, run_underlying Try.underlying24, sizeOf, typeInfo, hiR, hs, Builtin.lenOf, Builtin.firstCells]
  · simp [Builtin.append_, run_underlying Try.underlying24, sizeOf, typeInfo, hiR, hs, Builtin.lenOf, Builtin.firstCells, hnc, storeCells]
/-- entries of any slice put behind a row of one's own -/
theorem wp_append_en {w : World} {o : Oper} {a : Act} {K : Act → World → Prop} {Q : Exit → Act → World → Prop} (s x : Operand)
    (ho : o.op = .call { callee := .builtin .append, args := #[s, x], argTypes := #[24, 24] })
    (B : Nat) (N : Nat → Prop) (v u : Value) (L M : List Ent) (hs : a.eval s = v) (hown : OwnEn B v L w) (hx : a.eval x = u) (hu : Ens N w u M) (hlm : L.length + M.length ≤ 1050000) (hB : B ≤ w.heap.size)
    (h : ∀ v' w', OwnEn B v' (L ++ M) w' → Below B w w' → Grew v w v' w' → K (a.put o.dst v') w') : o.wp Try.prog a w K Q := by
  obtain ⟨A, c, rfl, hc, hcell⟩ := id hu
  cases A with
  | some ad =>
    obtain ⟨v', w', hr, h2, h3, h4⟩ := run_append_En w B v L M o.type ad M.length c hown N hu hlm hB
    unfold Oper.wp execOp
    simp only [ho, resolve, invoke, builtin, Sem.run_bind, Sem.run_pure, Result.andThen_ok, List.map_toArray, List.map_cons, List.map_nil, hs, hx, hr]
    exact h v' w' h2 h4 h3
  | none =>
    have hm : M = [] := by
      cases M with
      | nil => rfl
      | cons y t => obtain ⟨g, oo, hA, _⟩ := hcell (by simp); cases hA
    subst hm
    have hrun := append_nilE (c := c) o.type (show w.ownsRow B 65 4 v L.length (L.flatMap Ent.cs) from hown)
    unfold Oper.wp
    simp [execOp, ho, resolve, invoke, builtin, hs, hx, hrun, Result.andThen]
    refine h v w ?_ (Below.refl _ _) ⟨grownBy_refl _ _, .inl rfl⟩
    rw [List.append_nil]; exact hown
theorem wpList_append_en {w : World} {ops : Array Oper} {rest : List Oper} {o : Oper} {a : Act} {Q : Exit → Act → World → Prop} (hgd : o.guard = none) (s x : Operand)
    (ho : o.op = .call { callee := .builtin .append, args := #[s, x], argTypes := #[24, 24] })
    (B : Nat) (N : Nat → Prop) (v u : Value) (L M : List Ent) (hs : a.eval s = v) (hown : OwnEn B v L w) (hx : a.eval x = u) (hu : Ens N w u M) (hlm : L.length + M.length ≤ 1050000) (hB : B ≤ w.heap.size)
    (h : ∀ v' w', OwnEn B v' (L ++ M) w' → Below B w w' → Grew v w v' w' → wpList Try.prog ops Q rest (a.put o.dst v') w') : wpList Try.prog ops Q (o :: rest) a w :=
  wpList_plain hgd fun _ hK => wp_append_en s x ho B N v u L M hs hown hx hu hlm hB fun v' w' h1 h2 h3 => hK _ _ (h v' w' h1 h2 h3)
/-- a slice of one entry -/
theorem en_one {N : Nat → Prop} {w : World} {g : Nat} {ix et kd : Int} {dt : ByteArray} {t : TypeId} (h : Rt w g t [.int .i64 ix, .int .i64 et, .int .i64 kd, .string dt]) (hN : N g) : Ens N w (.slice (some ⟨g, 0, none⟩) 1 1) [⟨ix, et, kd, dt⟩] := ⟨_, _, rfl, Nat.le_refl _, fun _ => ⟨_, 0, rfl, hN, fun j hj => by
  have : j = 0 := by simpa using hj
  subst this
  intro i z hz
  show w.cell? ⟨g, 0 + 0 * 4 + i, none⟩ = _
  rw [show 0 + 0 * 4 + i = i by omega]
  exact h.cell hz⟩⟩
end Go.Proofs.Ytoekiencnbgmhaa
/-
  Law 13's Entries: not too many entries, and their data cut.
  There are no conditions beyond those that the lemma names.
-/
set_option linter.unusedSimpArgs false
set_option linter.unusedVariables false
namespace Go.Proofs.Ytoekiencnbgmhaa
open Go.RowKit Go.Deep
set_option maxRecDepth 100000

def cutEnt (e : Ent) : Ent := ⟨e.ix, e.et, e.kd, cutS e.data 60⟩
set_option maxHeartbeats 1000000 in
theorem ents13_any (N : Nat → Prop) (A : Option Addr) (m c q : Nat) (L : List Ent) (w : World) (h : Ens N w (.slice A m c) L) (hq : q ≤ 1000) :
    Calls Try.prog 9 #[.slice A m c, .int .i64 q] w fun e w' => ∃ v, e = .returned v ∧ OwnEn w.heap.size v ((L.take q).map cutEnt) w' ∧ Below w.heap.size w w' := by
  have hmL : m = L.length := h.len.1
  have HE := Lib.hid h
  have HM := Lib.hid hmL
  clear h hmL
  go_enter Try.func9, Try.ntmps9
  go_wp2_with fail
  go_loopw [5, 6] (fun u i wr => ∃ k : Nat, i = .int .i64 k ∧ k ≤ m ∧ k ≤ q ∧ OwnEn w.heap.size u ((L.take k).map cutEnt) wr ∧ Below w.heap.size w wr) (fun _ i _ => m + 1 - (intOf i).toNat)
  case atStart => exact ⟨0, rfl, Nat.zero_le _, Nat.zero_le _, OwnEn.nil _ _, Below.refl _ _⟩
  case round =>
    obtain ⟨k, rfl, hk, hkq, hO, hb⟩ := hrel
    have hlk : ((L.take k).map cutEnt).length = k := by rw [List.length_map, List.length_take, ← HM.out]; omega
    obtain ⟨A2, c2, hu⟩ := hO.slice
    rw [hlk] at hu
    subst hu
    by_cases hkm : k < m
    · have hkmi : (k : Int) < (m : Int) := by omega
      by_cases hkq2 : k < q
      · have hkqi : (k : Int) < (q : Int) := by omega
        have hkL : k < L.length := by rw [← HM.out]; exact hkm
        obtain ⟨⟨xk, yk, zk, dk⟩, hxk⟩ : ∃ x, L[k] = x := ⟨_, rfl⟩
        obtain ⟨ds, hds⟩ : ∃ ds, cutS dk 60 = ds := ⟨_, rfl⟩
        obtain ⟨a, o, rfl, ha, b0, b1, b2, b3⟩ := (HE.out.below hb).four k hkL hxk
        have HX := Lib.hid hxk
        have HD := Lib.hid hds
        have HO := Lib.hid hO
        have HB := Lib.hid hb
        have HLK := Lib.hid hlk
        clear hxk hds hO hb hlk
        go_wp2_with fail
        refine (lcut_to dk ds 60 _ (by decide) HD.out).mono ?_
        rintro e wz ⟨rfl, rfl⟩
        have hb2 := below_two wr (.cells #[.int .i64 xk, .int .i64 yk, .int .i64 zk, .string ds] 65) (.cells #[.int .i64 xk, .int .i64 yk, .int .i64 zk, .string ds] 65)
        have HOW := Lib.hid (HO.out.below hb2)
        have HON := Lib.hid (show Ens (fun j => j = wr.heap.size + 1) ((wr.alloc (.cells #[.int .i64 xk, .int .i64 yk, .int .i64 zk, .string ds] 65)).alloc (.cells #[.int .i64 xk, .int .i64 yk, .int .i64 zk, .string ds] 65)) (.slice (some ⟨wr.heap.size + 1, 0, none⟩) 1 1) [⟨xk, yk, zk, ds⟩] from en_one (Rt.new_at _ _ _ _ (World.size_alloc _ _)) rfl)
        have HB2 := Lib.hid (HB.out.trans (hb2.mono HB.out.size))
        have hlen : ((L.take k).map cutEnt).length + 1 ≤ 1050000 := by rw [HLK.out]; omega
        clear hb2 b0 b1 b2 b3
        go_wp2_with (at_builtin; refine wpList_append_en rfl _ _ rfl w.heap.size _ _ _ ((L.take k).map cutEnt) [⟨xk, yk, zk, ds⟩] rfl HOW.out rfl HON.out hlen HB2.out.size ?_; intro v' w' g1 g2 g3; (obtain ⟨A3, c3, hv3⟩ := g1.slice); (rw [List.length_append, HLK.out] at hv3); subst hv3; (have HG1 := Lib.hid g1); (have HG2 := Lib.hid g2); clear g1 g2 g3)
        go_roundw
        case rel => exact ⟨k + 1, by go_num, by omega, by omega, by
          rw [List.take_succ_eq_append_getElem hkL, List.map_append, HX.out, List.map_cons, List.map_nil]
          show OwnEn _ _ (_ ++ [⟨xk, yk, zk, cutS dk 60⟩]) _
          rw [HD.out]; exact HG1.out, HB2.out.trans HG2.out⟩
        case measure => first | (simp [intOf]; omega) | (simp [intOf]; done)
      · have hq2 : k = q := by omega
        subst hq2
        have hnq : ¬ (k : Int) < (k : Int) := by omega
        have HO := Lib.hid hO
        have HB := Lib.hid hb
        clear hO hb hlk
        go_wp2
        go_ret
        exact ⟨_, rfl, by have h9 := HO.out; rw [List.map_take] at h9; exact h9, HB.out⟩
    · have hk2 : k = m := by omega
      subst hk2
      have hnk : ¬ (k : Int) < (k : Int) := by omega
      have htk : L.take k = L.take q := by
        rw [List.take_of_length_le (by rw [← HM.out]; omega), List.take_of_length_le (by rw [← HM.out]; omega)]
      rw [htk] at hO
      have HO := Lib.hid hO
      have HB := Lib.hid hb
      clear hO hb hlk htk
      go_wp2
      go_ret
      exact ⟨_, rfl, by have h9 := HO.out; rw [List.map_take] at h9; exact h9, HB.out⟩
end Go.Proofs.Ytoekiencnbgmhaa
/-
  Law 13's Snap: a snapshot whose texts are cut.
  The texts have at most 2^47 bytes.
-/
set_option linter.unusedSimpArgs false
set_option linter.unusedVariables false
namespace Go.Proofs.Ytoekiencnbgmhaa
open Go.RowKit Go.Deep
set_option maxRecDepth 100000

def cutSnp (s : Snp) : Snp := ⟨s.ix, s.st, cutS s.conf 60, cutS s.data 100⟩
set_option maxHeartbeats 1000000 in
theorem snap13_any (ix st : Int) (cf dt cf2 dt2 : ByteArray) (w : World) (h1 : cutS cf 60 = cf2) (h2 : cutS dt 100 = dt2) :
    Calls Try.prog 8 #[.agg #[.int .i64 ix, .int .i64 st, .string cf, .string dt]] w fun e w' => e = .returned (.agg #[.int .i64 ix, .int .i64 st, .string cf2, .string dt2]) ∧ Below w.heap.size w w' := by
  obtain ⟨b, hb⟩ : ∃ b, w.heap.size = b := ⟨_, rfl⟩
  obtain ⟨W, hW⟩ : ∃ W, (w.alloc (.cells #[.int .i64 ix, .int .i64 st, .string cf, .string dt] 23)).alloc (.cells #[.int .i64 0, .int .i64 0, .string ⟨#[]⟩, .string ⟨#[]⟩] 23) = W := ⟨_, rfl⟩
  have hB : Below b w W := by rw [← hW, ← hb]; exact below_two _ _ _
  have hx : Rt W b 23 [.int .i64 ix, .int .i64 st, .string cf, .string dt] := by rw [← hW, ← hb]; exact Rt.below (Rt.new w _ _) (below_new _ _)
  have hy : Rt W (b + 1) 23 [.int .i64 0, .int .i64 0, .string ⟨#[]⟩, .string ⟨#[]⟩] := by rw [← hW, ← hb]; exact Rt.new_at _ _ _ _ (by simp)
  have HC := Lib.hid h1
  have HD := Lib.hid h2
  clear h1 h2
  go_enter Try.func8, Try.ntmps8
  go_wp2_with fail
  clear hW
  refine wp_region_noPanic ?_
  obtain ⟨wd, hwd⟩ : ∃ wd, W.drew = wd := ⟨_, rfl⟩
  replace hx : Rt W.drew b _ _ := hx
  replace hy : Rt W.drew (b + 1) _ _ := hy
  replace hB := hB.drew
  refine region_g 7 (fun W => W = wd) (by kernel_rfl) ?_
  rw [hwd] at hx hy hB ⊢
  clear hwd
  have hHeld : (fun W : World => W = wd) wd := rfl
  have d2 := hx.cell (j := 2) rfl
  have d3 := hx.cell (j := 3) rfl
  have f2 := hx.frz 2
  refine tkL 0 (.pointer (some ⟨b, 2, none⟩)) rfl (fun w hSw => ?_) ?_
  · (try dsimp only at hSw)
    obtain rfl : w = wd := hSw
    go_simp
  try simp only [Act.put, List.setIfInBounds_toArray, List.set_cons_zero, List.set_cons_succ]
  refine tkL 1 (.string cf) rfl (fun w hSw => ?_) ?_
  · (try dsimp only at hSw)
    obtain rfl : w = wd := hSw
    go_simp
  try simp only [Act.put, List.setIfInBounds_toArray, List.set_cons_zero, List.set_cons_succ]
  refine tkL 3 (.pointer (some ⟨b, 3, none⟩)) rfl (fun w hSw => ?_) ?_
  · (try dsimp only at hSw)
    obtain rfl : w = wd := hSw
    go_simp
  try simp only [Act.put, List.setIfInBounds_toArray, List.set_cons_zero, List.set_cons_succ]
  refine tkL 4 (.string dt) rfl (fun w hSw => ?_) ?_
  · (try dsimp only at hSw)
    obtain rfl : w = wd := hSw
    go_simp
  try simp only [Act.put, List.setIfInBounds_toArray, List.set_cons_zero, List.set_cons_succ]
  refine stM 2 rfl (fun K hK => ?_)
  go_simp
  go_at_call 39
  refine (lcut_to cf cf2 60 _ (by decide) HC.out).mono ?_
  rintro e wz ⟨rfl, rfl⟩
  clear hHeld
  have hHeld : (fun W : World => W = wd) _ := rfl
  refine hK.out _ _ (.inr hHeld) ?_
  clear hK K
  try simp only [Act.put, List.setIfInBounds_toArray, List.set_cons_zero, List.set_cons_succ]
  refine stM2 5 6 rfl rfl (fun K hK => ?_) (fun K hK => ?_)
  · go_simp
    go_at_call 39
    refine (lcut_to dt dt2 100 _ (by decide) HD.out).mono ?_
    rintro e wz ⟨rfl, rfl⟩
    clear hHeld
    have hHeld : (fun W : World => W = wd) _ := rfl
    refine hK.out _ _ (.inr hHeld) ?_
    clear hK K
    try simp only [Act.put, List.setIfInBounds_toArray, List.set_cons_zero, List.set_cons_succ]
    refine stM 6 rfl (fun K hK => ?_)
    go_simp
    refine hK.out _ _ (.inr hHeld) ?_
    clear hK K
    try simp only [Act.put, List.setIfInBounds_toArray, List.set_cons_zero, List.set_cons_succ]
    refine stM 7 rfl (fun K hK => ?_)
    go_simp
    obtain ⟨W1, hW1⟩ : ∃ W1, wd.setCell ⟨b, 2, none⟩ (.string cf2) = W1 := ⟨_, rfl⟩
    have hx1 := hx.set 2 (.string cf2)
    have hy1 := hy.other (g' := b) 2 (.string cf2) (by omega)
    have hB1 := hB.setCell (p := ⟨b, 2, none⟩) (Nat.le_refl b) (.string cf2)
    rw [hW1] at hx1 hy1 hB1 ⊢
    have d3 := hx1.cell (j := 3) rfl
    have f3 := hx1.frz 3
    clear hW1
    refine hK.out _ _ (.inl (by decide)) ?_
    clear hK K
    try simp only [Act.put, List.setIfInBounds_toArray, List.set_cons_zero, List.set_cons_succ]
    refine stM 8 rfl (fun K hK => ?_)
    go_simp
    refine hK.out _ _ (.inl (by decide)) ?_
    clear hK K
    try simp only [Act.put, List.setIfInBounds_toArray, List.set_cons_zero, List.set_cons_succ]
    refine stM 9 rfl (fun K hK => ?_)
    go_simp
    obtain ⟨W2, hW2⟩ : ∃ W2, W1.setCell ⟨b, 3, none⟩ (.string dt2) = W2 := ⟨_, rfl⟩
    have hx2 := hx1.set 3 (.string dt2)
    have hy2 := hy1.other (g' := b) 3 (.string dt2) (by omega)
    have hB2 := hB1.setCell (p := ⟨b, 3, none⟩) (Nat.le_refl b) (.string dt2)
    rw [hW2] at hx2 hy2 hB2 ⊢
    clear hW2 hx1 hy1 hB1 d3 f3
    refine hK.out _ _ (.inl (by decide)) ?_
    clear hK K
    try simp only [Act.put, List.setIfInBounds_toArray, List.set_cons_zero, List.set_cons_succ]
    refine anyG_done (by kernel_rfl) ?_ _
    refine NoPanic.normal ?_
    have c0 := hx2.cell (j := 0) rfl
    have c1 := hx2.cell (j := 1) rfl
    have c2 := hx2.cell (j := 2) rfl
    have c3 := hx2.cell (j := 3) rfl
    have e0 := hy2.cell (j := 0) rfl
    have e1 := hy2.cell (j := 1) rfl
    have e2 := hy2.cell (j := 2) rfl
    have e3 := hy2.cell (j := 3) rfl
    have g0 := hy2.frz 0
    have g1 := hy2.frz 1
    have g2 := hy2.frz 2
    have g3 := hy2.frz 3
    have hB4 := (((hB2.setCell (p := ⟨b + 1, 0, none⟩) (Nat.le_succ b) (.int .i64 ix)).setCell (p := ⟨b + 1, 1, none⟩) (Nat.le_succ b) (.int .i64 st)).setCell (p := ⟨b + 1, 2, none⟩) (Nat.le_succ b) (.string cf2)).setCell (p := ⟨b + 1, 3, none⟩) (Nat.le_succ b) (.string dt2)
    have hy4 := (((hy2.set 0 (.int .i64 ix)).set 1 (.int .i64 st)).set 2 (.string cf2)).set 3 (.string dt2)
    obtain ⟨W4, hW4⟩ : ∃ W4, (((W2.setCell ⟨b + 1, 0, none⟩ (.int .i64 ix)).setCell ⟨b + 1, 1, none⟩ (.int .i64 st)).setCell ⟨b + 1, 2, none⟩ (.string cf2)).setCell ⟨b + 1, 3, none⟩ (.string dt2) = W4 := ⟨_, rfl⟩
    rw [hW4] at hB4 hy4
    have r0 := hy4.cell (j := 0) rfl
    have r1 := hy4.cell (j := 1) rfl
    have r2 := hy4.cell (j := 2) rfl
    have r3 := hy4.cell (j := 3) rfl
    have HW4 := Lib.hid hW4
    clear hx2 hy2 hy4 hW4 hB2
    go_wp2
    rw [HW4.out]
    exact bodyPost_ret (v := .agg #[.int .i64 ix, .int .i64 st, .string cf2, .string dt2]) (by simp [results, Try.results8, go_sem, r0, r1, r2, r3]) rfl ⟨rfl, by first | exact hB4 | (rw [hb]; exact hB4)⟩
  · go_simp
    refine hK.out _ _ (.inr hHeld) ?_
    clear hK K
    try simp only [Act.put, List.setIfInBounds_toArray, List.set_cons_zero, List.set_cons_succ]
    refine stM 5 rfl (fun K hK => ?_)
    go_simp
    go_at_call 39
    refine (lcut_to dt dt2 100 _ (by decide) HD.out).mono ?_
    rintro e wz ⟨rfl, rfl⟩
    clear hHeld
    have hHeld : (fun W : World => W = wd) _ := rfl
    refine hK.out _ _ (.inr hHeld) ?_
    clear hK K
    try simp only [Act.put, List.setIfInBounds_toArray, List.set_cons_zero, List.set_cons_succ]
    refine stM 7 rfl (fun K hK => ?_)
    go_simp
    obtain ⟨W1, hW1⟩ : ∃ W1, wd.setCell ⟨b, 2, none⟩ (.string cf2) = W1 := ⟨_, rfl⟩
    have hx1 := hx.set 2 (.string cf2)
    have hy1 := hy.other (g' := b) 2 (.string cf2) (by omega)
    have hB1 := hB.setCell (p := ⟨b, 2, none⟩) (Nat.le_refl b) (.string cf2)
    rw [hW1] at hx1 hy1 hB1 ⊢
    have d3 := hx1.cell (j := 3) rfl
    have f3 := hx1.frz 3
    clear hW1
    refine hK.out _ _ (.inl (by decide)) ?_
    clear hK K
    try simp only [Act.put, List.setIfInBounds_toArray, List.set_cons_zero, List.set_cons_succ]
    refine stM 8 rfl (fun K hK => ?_)
    go_simp
    refine hK.out _ _ (.inl (by decide)) ?_
    clear hK K
    try simp only [Act.put, List.setIfInBounds_toArray, List.set_cons_zero, List.set_cons_succ]
    refine stM 9 rfl (fun K hK => ?_)
    go_simp
    obtain ⟨W2, hW2⟩ : ∃ W2, W1.setCell ⟨b, 3, none⟩ (.string dt2) = W2 := ⟨_, rfl⟩
    have hx2 := hx1.set 3 (.string dt2)
    have hy2 := hy1.other (g' := b) 3 (.string dt2) (by omega)
    have hB2 := hB1.setCell (p := ⟨b, 3, none⟩) (Nat.le_refl b) (.string dt2)
    rw [hW2] at hx2 hy2 hB2 ⊢
    clear hW2 hx1 hy1 hB1 d3 f3
    refine hK.out _ _ (.inl (by decide)) ?_
    clear hK K
    try simp only [Act.put, List.setIfInBounds_toArray, List.set_cons_zero, List.set_cons_succ]
    refine anyG_done (by kernel_rfl) ?_ _
    refine NoPanic.normal ?_
    have c0 := hx2.cell (j := 0) rfl
    have c1 := hx2.cell (j := 1) rfl
    have c2 := hx2.cell (j := 2) rfl
    have c3 := hx2.cell (j := 3) rfl
    have e0 := hy2.cell (j := 0) rfl
    have e1 := hy2.cell (j := 1) rfl
    have e2 := hy2.cell (j := 2) rfl
    have e3 := hy2.cell (j := 3) rfl
    have g0 := hy2.frz 0
    have g1 := hy2.frz 1
    have g2 := hy2.frz 2
    have g3 := hy2.frz 3
    have hB4 := (((hB2.setCell (p := ⟨b + 1, 0, none⟩) (Nat.le_succ b) (.int .i64 ix)).setCell (p := ⟨b + 1, 1, none⟩) (Nat.le_succ b) (.int .i64 st)).setCell (p := ⟨b + 1, 2, none⟩) (Nat.le_succ b) (.string cf2)).setCell (p := ⟨b + 1, 3, none⟩) (Nat.le_succ b) (.string dt2)
    have hy4 := (((hy2.set 0 (.int .i64 ix)).set 1 (.int .i64 st)).set 2 (.string cf2)).set 3 (.string dt2)
    obtain ⟨W4, hW4⟩ : ∃ W4, (((W2.setCell ⟨b + 1, 0, none⟩ (.int .i64 ix)).setCell ⟨b + 1, 1, none⟩ (.int .i64 st)).setCell ⟨b + 1, 2, none⟩ (.string cf2)).setCell ⟨b + 1, 3, none⟩ (.string dt2) = W4 := ⟨_, rfl⟩
    rw [hW4] at hB4 hy4
    have r0 := hy4.cell (j := 0) rfl
    have r1 := hy4.cell (j := 1) rfl
    have r2 := hy4.cell (j := 2) rfl
    have r3 := hy4.cell (j := 3) rfl
    have HW4 := Lib.hid hW4
    clear hx2 hy2 hy4 hW4 hB2
    go_wp2
    rw [HW4.out]
    exact bodyPost_ret (v := .agg #[.int .i64 ix, .int .i64 st, .string cf2, .string dt2]) (by simp [results, Try.results8, go_sem, r0, r1, r2, r3]) rfl ⟨rfl, by first | exact hB4 | (rw [hb]; exact hB4)⟩
end Go.Proofs.Ytoekiencnbgmhaa
/-
  The kind of an entry of a row of one's own is written; all entries of a log.
  There are no conditions beyond those that each lemma names.
-/
set_option linter.unusedSimpArgs false
set_option linter.unusedVariables false
namespace Go.Proofs.Ytoekiencnbgmhaa
open Go.RowKit Go.Deep
set_option maxRecDepth 100000

theorem get13_all (r : Lg) (n : Int) : get13 r (r.s.ix + 1) n = r.L.take n.toNat := by
  unfold get13 frm13
  by_cases h : r.s.ix < r.s.ix + 1 ∧ r.s.ix + 1 ≤ lst13 r
  · rw [if_pos h, show (r.s.ix + 1 - r.s.ix - 1).toNat = 0 by omega, List.drop_zero]
  · rw [if_neg h]
    have : r.L.length = 0 := by unfold lst13 at h; omega
    rw [List.length_eq_zero_iff.1 this]
theorem cutEnts_short (L : List Ent) (q : Nat) : ((L.take q).map cutEnt).length ≤ q := by rw [List.length_map, List.length_take]; omega
theorem cutEnts_fit {L : List Ent} {q : Nat} (h : ∀ e ∈ L, -9223372036854775808 ≤ e.ix ∧ e.ix ≤ 9223372036854775807) : ∀ e ∈ (L.take q).map cutEnt, e.data.size ≤ 100000 ∧ -9223372036854775808 ≤ e.ix ∧ e.ix ≤ 9223372036854775807 := by
  intro e he
  obtain ⟨x, hx, rfl⟩ := List.mem_map.1 he
  have h1 := h x (List.mem_of_mem_take hx)
  exact ⟨Nat.le_trans (cutS_size x.data 60) (by decide), h1⟩
def Ent.kind (e : Ent) (t : Int) : Ent := ⟨e.ix, e.et, t, e.data⟩
theorem eflat_kind (t : Int) : ∀ (L : List Ent) (k : Nat) (hk : k < L.length), (L.set k ((L[k]'hk).kind t)).flatMap Ent.cs = (L.flatMap Ent.cs).set (k * 4 + 2) (.int .i64 t)
  | [], k, hk => absurd hk (by simp)
  | e :: L, 0, hk => rfl
  | e :: L, k + 1, hk => by
    have ih := eflat_kind t L k (by simpa using hk)
    rw [List.getElem_cons_succ, List.set_cons_succ, List.flatMap_cons, List.flatMap_cons, ih]
    rw [List.set_append_right _ _ (by show 4 ≤ _; omega)]
    show _ ++ _ = _ ++ List.set _ ((k + 1) * 4 + 2 - 4) _
    rw [show (k + 1) * 4 + 2 - 4 = k * 4 + 2 by omega]
theorem OwnEn.set_kind {B n c k : Nat} {g : Nat} {L : List Ent} {w : World} (h : OwnEn B (.slice (some ⟨g, 0, none⟩) n c) L w) (hk : k < L.length) (t : Int) : OwnEn B (.slice (some ⟨g, 0, none⟩) n c) (L.set k ((L[k]'hk).kind t)) (w.setCell ⟨g, k * 4 + 2, none⟩ (.int .i64 t)) := by
  unfold OwnEn at *
  rw [List.length_set, eflat_kind]
  refine ⟨by rw [List.length_set]; exact h.1, ?_⟩
  rcases h.2 with ⟨hv, _⟩ | ⟨g2, c2, cur, hv, hB, hg2, h1, h2, h3, h4⟩
  · cases hv
  · injection hv with e1 e2 e3
    injection e1 with e1
    injection e1 with e1 _
    subst e1; subst e3; subst e2
    refine .inr ⟨g, c, cur.setIfInBounds (k * 4 + 2) (.int .i64 t), rfl, hB, heap_setCell_same w g (k * 4 + 2) cur _ _ hg2, h1, h2, by simpa using h3, ?_⟩
    rw [Array.toList_setIfInBounds, List.take_set, h4]
theorem OwnEn.addr13 {B n c : Nat} {A : Option Addr} {L : List Ent} {w : World} (h : OwnEn B (.slice A n c) L w) (hn : 0 < L.length) : ∃ g, A = some ⟨g, 0, none⟩ ∧ B ≤ g ∧ g < w.heap.size ∧ n = L.length ∧ L.length ≤ c := by
  have hlt := h.lt
  rcases h.2 with ⟨hv, _⟩ | ⟨g, c2, cur, hv, hB, hg, h1, h2, _⟩
  · injection hv with _ e2 _
    omega
  · injection hv with e1 e2 e3
    subst e1; subst e2; subst e3
    exact ⟨g, rfl, hB, (hlt g rfl).2, rfl, h1⟩
end Go.Proofs.Ytoekiencnbgmhaa
/-
  The reference's log: First, Last, Term, Fits, end, Newer, Get.
  The conditions: its numbers are far from the end, its entries at most 200.
-/
set_option linter.unusedSimpArgs false
set_option linter.unusedVariables false
namespace Go.Proofs.Ytoekiencnbgmhaa
open Go.RowKit Go.Deep
set_option maxRecDepth 100000

def lgv (r : Lg) (v : Value) : Value := .agg #[.int .i64 r.s.ix, .int .i64 r.s.st, .string r.s.conf, .string r.s.data, v]
set_option maxHeartbeats 400000 in
theorem rfirst13_any {r : Lg} (v : Value) (hk : Lok 1000000 r) (w : World) :
    Calls Try.prog 49 #[lgv r v] w fun e w' => e = .returned (.int .i64 (r.s.ix + 1)) ∧ Below w.heap.size w w' := by
  obtain ⟨h0, h1, h2⟩ := hk.ends
  unfold lgv
  obtain ⟨⟨⟨ix, st, cf, dt⟩, L⟩, hr⟩ : ∃ x, r = x := ⟨_, rfl⟩
  subst hr
  simp only at h0 h1 ⊢
  clear hk
  go_enter Try.func49, Try.ntmps49
  go_wp2
  go_ret
  exact ⟨rfl, below_new _ _⟩
set_option maxHeartbeats 400000 in
theorem rlast13_any {r : Lg} (A : Option Addr) (c : Nat) (hk : Lok 1000000 r) (w : World) :
    Calls Try.prog 48 #[lgv r (.slice A r.L.length c)] w fun e w' => e = .returned (.int .i64 (lst13 r)) ∧ Below w.heap.size w w' := by
  obtain ⟨h0, h1, h2⟩ := hk.ends
  unfold lgv lst13
  obtain ⟨⟨⟨ix, st, cf, dt⟩, L⟩, hr⟩ : ∃ x, r = x := ⟨_, rfl⟩
  subst hr
  simp only at h0 h1 h2 ⊢
  obtain ⟨n, hn⟩ : ∃ n, L.length = n := ⟨_, rfl⟩
  rw [hn] at h2 ⊢
  clear hk hn
  go_enter Try.func48, Try.ntmps48
  go_wp2
  go_ret
  exact ⟨rfl, below_new _ _⟩
set_option maxHeartbeats 400000 in
theorem rterm13_any (N : Nat → Prop) {r : Lg} (A : Option Addr) (c : Nat) (hk : Lok 1000000 r) (w : World) (hE : Ens N w (.slice A r.L.length c) r.L) (i t : Int) (b : Bool) (ht : trm13 r i = (t, b)) :
    Calls Try.prog 18 #[lgv r (.slice A r.L.length c), .int .i64 i] w fun e w' => e = .returned (.tuple #[.int .i64 t, .bool b]) ∧ Below w.heap.size w w' := by
  have HL := Lib.hid fun W => rlast13_any A c hk W
  obtain ⟨h0, h1, h2⟩ := hk.ends
  obtain ⟨l, hl⟩ : ∃ l, lst13 r = l := ⟨_, rfl⟩
  have hl2 : l = r.s.ix + (r.L.length : Int) := hl.symm
  rw [hl] at HL
  unfold lgv at HL ⊢
  obtain ⟨ix, hix⟩ : ∃ ix, r.s.ix = ix := ⟨_, rfl⟩
  obtain ⟨st, hst⟩ : ∃ st, r.s.st = st := ⟨_, rfl⟩
  obtain ⟨cf, hcf⟩ : ∃ cf, r.s.conf = cf := ⟨_, rfl⟩
  obtain ⟨dt, hdt⟩ : ∃ dt, r.s.data = dt := ⟨_, rfl⟩
  obtain ⟨n, hn⟩ : ∃ n, r.L.length = n := ⟨_, rfl⟩
  rw [hn] at h2 hE hl2
  simp only [hix, hst, hcf, hdt, hn] at HL h0 h1 hl2 ⊢
  by_cases hi : i = ix
  · have ht2 := trm13_own r
    rw [hix, hst, ← hi, ht] at ht2
    injection ht2 with e1 e2
    subst e1; subst e2; subst hi
    clear hix hst hcf hdt ht hE HL hl hn
    go_enter Try.func18, Try.ntmps18
    go_wp2
    go_ret2
    exact ⟨rfl, below_new _ _⟩
  · by_cases hlt : i < ix
    · rw [trm13_out (by omega) (by omega)] at ht
      injection ht with e1 e2
      subst e1; subst e2
      clear hix hst hcf hdt hE hl hn
      go_enter Try.func18, Try.ntmps18
      go_wp2
      go_ret2
      exact ⟨rfl, below_new _ _⟩
    · by_cases hgt : l < i
      · rw [trm13_out (by omega) (by omega)] at ht
        injection ht with e1 e2
        subst e1; subst e2
        obtain ⟨b0, hb0⟩ : ∃ b0, w.heap.size = b0 := ⟨_, rfl⟩
        obtain ⟨W0, hW0⟩ : ∃ W0, w.alloc (.cells #[.int .i64 ix, .int .i64 st, .string cf, .string dt, .slice A n c] 32) = W0 := ⟨_, rfl⟩
        have hR : Rt W0 b0 32 [.int .i64 ix, .int .i64 st, .string cf, .string dt, .slice A n c] := by rw [← hW0, ← hb0]; exact Rt.new _ _ _
        have hB : Below w.heap.size w W0 := by rw [← hW0]; exact below_new _ _
        have d0 := hR.cell (j := 0) rfl
        have d1 := hR.cell (j := 1) rfl
        have d2 := hR.cell (j := 2) rfl
        have d3 := hR.cell (j := 3) rfl
        have d4 := hR.cell (j := 4) rfl
        clear hix hst hcf hdt hE hl hn
        go_enter Try.func18, Try.ntmps18
        go_wp2_with fail
        refine (HL.out _).mono ?_
        rintro e w1 ⟨rfl, h1'⟩
        have hB1 := hB.trans (h1'.mono hB.size)
        go_wp2
        go_ret2
        exact ⟨rfl, hB1⟩
      · have hin : r.s.ix < i ∧ i ≤ lst13 r := by rw [hix, hl]; omega
        rw [trm13_in hin] at ht
        injection ht with e1 e2
        subst e2
        obtain ⟨k, hk2⟩ : ∃ k : Nat, i - ix - 1 = (k : Int) := ⟨(i - ix - 1).toNat, by omega⟩
        have hkn : k < n := by omega
        obtain ⟨⟨xi, xt, xk, xd⟩, hx⟩ : ∃ x, r.L[k]'(by rw [hn]; exact hkn) = x := ⟨_, rfl⟩
        have e1' : xt = t := by
          rw [← e1]
          have : (i - r.s.ix - 1).toNat = k := by rw [hix]; omega
          simp only [this, hx]
        subst e1'
        have HF := Lib.hid (fun W (hb : Below w.heap.size w W) => (hE.below hb).four k (by rw [hn]; exact hkn) hx)
        obtain ⟨b0, hb0⟩ : ∃ b0, w.heap.size = b0 := ⟨_, rfl⟩
        obtain ⟨W0, hW0⟩ : ∃ W0, w.alloc (.cells #[.int .i64 ix, .int .i64 st, .string cf, .string dt, .slice A n c] 32) = W0 := ⟨_, rfl⟩
        have hR : Rt W0 b0 32 [.int .i64 ix, .int .i64 st, .string cf, .string dt, .slice A n c] := by rw [← hW0, ← hb0]; exact Rt.new _ _ _
        have hB : Below w.heap.size w W0 := by rw [← hW0]; exact below_new _ _
        have d0 := hR.cell (j := 0) rfl
        have d1 := hR.cell (j := 1) rfl
        have d2 := hR.cell (j := 2) rfl
        have d3 := hR.cell (j := 3) rfl
        have d4 := hR.cell (j := 4) rfl
        clear hix hst hcf hdt hE hl hn e1 hin hx
        go_enter Try.func18, Try.ntmps18
        go_wp2_with fail
        refine (HL.out _).mono ?_
        rintro e w1 ⟨rfl, h1'⟩
        have hB1 := hB.trans (h1'.mono hB.size)
        obtain ⟨a, o, rfl, ha, y0, y1, y2, y3⟩ := HF.out _ hB1
        have hR1 := hR.below h1'
        have d0' := hR1.cell (j := 0) rfl
        have d4' := hR1.cell (j := 4) rfl
        have hki : (k : Int) < (n : Int) := by omega
        have hk0 : (0 : Int) ≤ (k : Int) := by omega
        clear d0 d1 d2 d3 d4 hR hR1 hB h1'
        go_wp2
        go_ret2
        exact ⟨rfl, hB1⟩
end Go.Proofs.Ytoekiencnbgmhaa
