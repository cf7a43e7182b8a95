/-
  What the walks of stage 7's laws ask for: the contracts of package fold's functions, with what they answer named.
  The operations' integers are in their ranges; folds are as they should be.
-/
import Derived.Test.YtegkhkcnoahhdaaFNext
import Derived.Test.YtegkhkcnoahhdaaFEq
import Derived.Test.YtegkhkcnoahhdaaFDec
import Derived.Test.YtegkhkcnoahhdaaFBack
import Derived.Test.YtegkhkcnoahhdaaL6Begun
import Derived.Test.YtegkhkcnoahhdaaL6Ops
import Derived.Test.YtegkhkcnoahhdaaL6Box
set_option linter.unusedSimpArgs false
set_option linter.unusedVariables false
namespace Go.Proofs.Ytegkhkcnoahhdaa
open Go.RowKit
set_option maxRecDepth 100000

theorem ops_slice {w : World} {B : Nat} {s : Value} {l : List Opn} (h : Ops w B s l) : ∃ A c, s = .slice A l.length c := by
  obtain ⟨A, c, hv, _⟩ := h; exact ⟨A, c, hv⟩
theorem fnext_to (B g Bo : Nat) (s : Value) (f f' : Fo) (bc bq : Int) (bo : List Opn) (y : Bool) (rp rc rq re : Int) (ro : List Opn) (w : World) (h : Fd w B g f) (hs : Ops w Bo s bo) (hBo : Bo ≤ w.heap.size) (hok : Bat.ok ⟨bc, bq, bo⟩) (hp : f.place ≤ 1000000000000000) (hy : nextB f ⟨bc, bq, bo⟩ = y) (hst : stepF f ⟨bc, bq, bo⟩ = f') (hrw : rowF f ⟨bc, bq, bo⟩ = ⟨rp, ⟨rc, rq, ro⟩, re⟩) :
    Calls Try.prog 9 #[.pointer (some ⟨g, 0, none⟩), .agg #[.int .i64 bc, .int .i64 bq, s]] w fun e w' => ∃ A c, e = .returned (.tuple #[.agg #[.int .i64 rp, .int .i64 rc, .int .i64 rq, .slice A ro.length c, .int .i64 re], .bool y]) ∧ (Ops w' w'.heap.size (.slice A ro.length c) ro ∧ Fd w' B g f') ∧ w.grownBy w' (some g) := by
  refine (fnext_is B g Bo s f ⟨bc, bq, bo⟩ y w h hs hBo hok hp hy).mono ?_
  rintro e w' ⟨r, rfl, ⟨⟨s9, rfl, ho⟩, hf⟩, hg⟩
  rw [hrw] at ho ⊢
  rw [hst] at hf
  obtain ⟨A, c, rfl⟩ := ops_slice ho
  exact ⟨A, c, rfl, ⟨ho, hf⟩, hg⟩
theorem ftold_to (B g : Nat) (f : Fo) (c : Int) (rp rc rq re : Int) (ro : List Opn) (y : Bool) (w : World) (h : Fd w B g f) (hr : f.told c.toNat = ⟨rp, ⟨rc, rq, ro⟩, re⟩) (hy : (decide (f.last c.toNat ≠ 0)) = y) :
    Calls Try.prog 10 #[.pointer (some ⟨g, 0, none⟩), .int .i64 c] w fun e w' => ∃ A k, e = .returned (.tuple #[.agg #[.int .i64 rp, .int .i64 rc, .int .i64 rq, .slice A ro.length k, .int .i64 re], .bool y]) ∧ Ops w' w'.heap.size (.slice A ro.length k) ro ∧ Below w.heap.size w w' := by
  refine (ftold_is B g f c _ y w h hr hy).mono ?_
  rintro e w' ⟨s, rfl, ho, hb⟩
  obtain ⟨A, k, rfl⟩ := ops_slice ho
  exact ⟨A, k, rfl, ho, hb⟩
theorem fplace_to (B g : Nat) (f : Fo) (p : Int) (w : World) (h : Fd w B g f) (hp : f.place = p) : Calls Try.prog 12 #[.pointer (some ⟨g, 0, none⟩)] w fun e w' => e = .returned (.int .i64 p) ∧ Below w.heap.size w w' := by
  refine (fplace_is B g f w h).mono ?_
  rintro e w' ⟨rfl, rfl⟩
  exact ⟨by rw [hp], Below.refl _ _⟩
theorem fenc_to (B g : Nat) (f : Fo) (m : List UInt8) (w : World) (h : Fd w B g f) (hm : bytesF f = m) : Calls Try.prog 18 #[.pointer (some ⟨g, 0, none⟩)] w fun e w' => ∃ A c, e = .returned (.slice A m.length c) ∧ OwnB w.heap.size (.slice A m.length c) m w' ∧ Below w.heap.size w w' := by
  rw [← hm]
  refine (fencode_any B g f w h h.good.place.2).mono ?_
  rintro e w' ⟨v, rfl, ho, hb⟩
  obtain ⟨A, c, rfl⟩ := own_slice ho
  exact ⟨A, c, rfl, ho, hb⟩
theorem fdec_yes (A : Option Addr) (n c B C : Nat) (l : List UInt8) (f : Fo) (w : World) (h : Byt w C (.slice A n c) l) (hC : C ≤ w.heap.size) (hB : B ≤ w.heap.size) (hl : l.length ≤ 1000000) (hf : decF l = some f) :
    Calls Try.prog 11 #[.slice A n c] w fun e w' => ∃ g, e = .returned (.tuple #[.pointer (some ⟨g, 0, none⟩), .int .i64 0]) ∧ (Fd w' B g f ∧ w.heap.size ≤ g) ∧ Below w.heap.size w w' := by
  refine (fdecode_any A n c B C l w h hC hB hl).mono ?_
  rintro e w' ⟨h1, _, hb⟩
  obtain ⟨g, rfl, h2⟩ := h1 f hf
  exact ⟨g, rfl, h2, hb⟩
theorem fdec_no (A : Option Addr) (n c C : Nat) (l : List UInt8) (w : World) (h : Byt w C (.slice A n c) l) (hC : C ≤ w.heap.size) (hl : l.length ≤ 1000000) (hf : decF l = none) :
    Calls Try.prog 11 #[.slice A n c] w fun e w' => e = .returned (.tuple #[.pointer none, .int .i64 1]) ∧ Below w.heap.size w w' := by
  refine (fdecode_any A n c 0 C l w h hC (Nat.zero_le _) hl).mono ?_
  rintro e w' ⟨_, h1, hb⟩
  exact ⟨h1 hf, hb⟩
theorem fnext_nil (bc bq : Int) (s : Value) (w : World) : Calls Try.prog 9 #[.pointer none, .agg #[.int .i64 bc, .int .i64 bq, s]] w fun e w' => ∃ r, e = .returned (.tuple #[r, .bool false]) ∧ Below w.heap.size w w' := by
  go_enter Try.func9, Try.ntmps9
  have hb := Below.refl w.heap.size w
  go_wp2_with fail
  refine wp_world (fun W => Rb W (w.heap.size + 1) 32 [.int .i64 0, .int .i64 0, .int .i64 0, .slice none 0 0, .int .i64 0] ∧ Below w.heap.size w W) ⟨Rb.new_at _ _ _ _ (by simp), below_two _ _ _⟩ ?_
  clear hb
  rintro k1 ⟨hr0, hb⟩
  have HR := Lib.hid hr0; clear hr0
  replace HR := Lib.hid (Rb.below HR.out ((Below.refl k1.heap.size k1).drew))
  refine wp_region_noPanic ?_
  refine wp_region_held_drew (S := fun W => True) (by kernel_rfl) ?_ (fun hHeld => ?_)
  · trivial
  replace hb : Below w.heap.size w k1.drew := hb.drew
  have hzd : k1.heap.size ≤ k1.drew.heap.size := Nat.le_refl _
  generalize k1.drew = k2 at *
  refine wpAnyH_take (i := 0) (oi := { dst := some 8, op := Op.move (Operand.tmp 0), type := 26, pos := "fold.go:35", after := #[], guard := none }) (v := .pointer none) rfl (by kernel_rfl) (by kernel_rfl) (by kernel_rfl) (fun _ _ _ h => h) (Or.inl ⟨by rfl, fun w hSw => ?_⟩) (by assumption) ?_
  · (try dsimp only at hSw)
    go_simp
  try simp only [Act.put, List.setIfInBounds_toArray, List.set_cons_zero, List.set_cons_succ]
  refine wpAnyH_take (i := 1) (oi := { dst := some 9, op := Op.binOp BinOp.eql 26 (Operand.tmp 8) (Operand.const (Value.pointer none)) 26, type := 4, pos := "fold.go:35", after := #[{ on := 0, ground := Ground.data }], guard := none }) (v := .bool true) rfl (by kernel_rfl) (by kernel_rfl) (by kernel_rfl) (fun _ _ _ h => h) (Or.inl ⟨by rfl, fun w hSw => ?_⟩) (by assumption) ?_
  · (try dsimp only at hSw)
    go_simp
  try simp only [Act.put, List.setIfInBounds_toArray, List.set_cons_zero, List.set_cons_succ]
  refine wpAnyH_take (i := 2) (oi := { dst := some 10, op := Op.move (Operand.tmp 9), type := 4, pos := "fold.go:35", after := #[{ on := 1, ground := Ground.data }], guard := none }) (v := .bool true) rfl (by kernel_rfl) (by kernel_rfl) (by kernel_rfl) (fun _ _ _ h => h) (Or.inl ⟨by rfl, fun w hSw => ?_⟩) (by assumption) ?_
  · (try dsimp only at hSw)
    go_simp
  try simp only [Act.put, List.setIfInBounds_toArray, List.set_cons_zero, List.set_cons_succ]
  refine wpAnyH_take (i := 3) (oi := { dst := some 11, op := Op.fieldAddr 29 (Operand.tmp 3) 1, type := 0, pos := "fold.go:35", after := #[{ on := 2, ground := Ground.guard }], guard := some (2, false) }) (v := undef) rfl (by kernel_rfl) (by kernel_rfl) (by kernel_rfl) (fun _ _ _ h => h) (Or.inr ⟨by rfl, rfl⟩) (by assumption) ?_
  try simp only [Act.put, List.setIfInBounds_toArray, List.set_cons_zero, List.set_cons_succ]
  refine wpAnyH_take (i := 4) (oi := { dst := some 12, op := Op.load 2 (Operand.tmp 11), type := 2, pos := "fold.go:35", after := #[{ on := 3, ground := Ground.data }, { on := 2, ground := Ground.guard }], guard := some (2, false) }) (v := undef) rfl (by kernel_rfl) (by kernel_rfl) (by kernel_rfl) (fun _ _ _ h => h) (Or.inr ⟨by rfl, rfl⟩) (by assumption) ?_
  try simp only [Act.put, List.setIfInBounds_toArray, List.set_cons_zero, List.set_cons_succ]
  refine wpAnyH_take (i := 5) (oi := { dst := some 13, op := Op.move (Operand.tmp 0), type := 26, pos := "fold.go:35", after := #[{ on := 2, ground := Ground.guard }], guard := some (2, false) }) (v := undef) rfl (by kernel_rfl) (by kernel_rfl) (by kernel_rfl) (fun _ _ _ h => h) (Or.inr ⟨by rfl, rfl⟩) (by assumption) ?_
  try simp only [Act.put, List.setIfInBounds_toArray, List.set_cons_zero, List.set_cons_succ]
  refine wpAnyH_take (i := 6) (oi := { dst := some 14, op := Op.fieldAddr 29 (Operand.tmp 3) 0, type := 0, pos := "fold.go:35", after := #[{ on := 2, ground := Ground.guard }], guard := some (2, false) }) (v := undef) rfl (by kernel_rfl) (by kernel_rfl) (by kernel_rfl) (fun _ _ _ h => h) (Or.inr ⟨by rfl, rfl⟩) (by assumption) ?_
  try simp only [Act.put, List.setIfInBounds_toArray, List.set_cons_zero, List.set_cons_succ]
  refine wpAnyH_take (i := 7) (oi := { dst := some 15, op := Op.load 3 (Operand.tmp 14), type := 3, pos := "fold.go:35", after := #[{ on := 6, ground := Ground.data }, { on := 2, ground := Ground.guard }], guard := some (2, false) }) (v := undef) rfl (by kernel_rfl) (by kernel_rfl) (by kernel_rfl) (fun _ _ _ h => h) (Or.inr ⟨by rfl, rfl⟩) (by assumption) ?_
  try simp only [Act.put, List.setIfInBounds_toArray, List.set_cons_zero, List.set_cons_succ]
  refine wpAnyH_take (i := 8) (oi := { dst := some 16, op := Op.call { callee := Callee.value (Operand.func 13), args := #[Operand.tmp 13, Operand.tmp 15], argTypes := #[26, 3] }, type := 2, pos := "fold.go:35", after := #[{ on := 5, ground := Ground.data }, { on := 7, ground := Ground.data }, { on := 2, ground := Ground.chain }, { on := 2, ground := Ground.guard }], guard := some (2, false) }) (v := undef) rfl (by kernel_rfl) (by kernel_rfl) (by kernel_rfl) (fun _ _ _ h => h) (Or.inr ⟨by rfl, rfl⟩) (by assumption) ?_
  try simp only [Act.put, List.setIfInBounds_toArray, List.set_cons_zero, List.set_cons_succ]
  refine wpAnyH_take (i := 9) (oi := { dst := some 17, op := Op.binOp BinOp.add 2 (Operand.tmp 16) (Operand.const (Value.int IntKind.i64 1)) 2, type := 2, pos := "fold.go:35", after := #[{ on := 8, ground := Ground.data }, { on := 2, ground := Ground.guard }], guard := some (2, false) }) (v := undef) rfl (by kernel_rfl) (by kernel_rfl) (by kernel_rfl) (fun _ _ _ h => h) (Or.inr ⟨by rfl, rfl⟩) (by assumption) ?_
  try simp only [Act.put, List.setIfInBounds_toArray, List.set_cons_zero, List.set_cons_succ]
  refine wpAnyH_take (i := 10) (oi := { dst := some 18, op := Op.binOp BinOp.neq 2 (Operand.tmp 12) (Operand.tmp 17) 2, type := 4, pos := "fold.go:35", after := #[{ on := 4, ground := Ground.data }, { on := 9, ground := Ground.data }, { on := 2, ground := Ground.guard }], guard := some (2, false) }) (v := undef) rfl (by kernel_rfl) (by kernel_rfl) (by kernel_rfl) (fun _ _ _ h => h) (Or.inr ⟨by rfl, rfl⟩) (by assumption) ?_
  try simp only [Act.put, List.setIfInBounds_toArray, List.set_cons_zero, List.set_cons_succ]
  refine wpAnyH_take (i := 11) (oi := { dst := some 19, op := Op.pick (Operand.tmp 10) (Operand.const (Value.bool true)) (Operand.tmp 18), type := 4, pos := "fold.go:35", after := #[{ on := 2, ground := Ground.data }, { on := 10, ground := Ground.data }], guard := none }) (v := .bool true) rfl (by kernel_rfl) (by kernel_rfl) (by kernel_rfl) (fun _ _ _ h => h) (Or.inl ⟨by rfl, fun w hSw => ?_⟩) (by assumption) ?_
  · (try dsimp only at hSw)
    go_simp
  try simp only [Act.put, List.setIfInBounds_toArray, List.set_cons_zero, List.set_cons_succ]
  refine wpAnyH_done (by kernel_rfl) ?_ _
  refine NoPanic.normal ?_
  have hr1d := HR.out
  have r0 := hr1d.cell (j := 0) rfl
  have r1 := hr1d.cell (j := 1) rfl
  have r2 := hr1d.cell (j := 2) rfl
  have r3 := hr1d.cell (j := 3) rfl
  have r4 := hr1d.cell (j := 4) rfl
  have f0 := hr1d.frz 0
  have f1 := hr1d.frz 1
  have f2 := hr1d.frz 2
  have f3 := hr1d.frz 3
  have f4 := hr1d.frz 4
  have hlt := hr1d.lt
  go_wp2
  refine body_world7 (fun W => Rb W (w.heap.size + 1) 32 [.int .i64 0, .int .i64 0, .int .i64 0, .slice none 0 0, .int .i64 0] ∧ Below w.heap.size w W) ⟨((((hr1d.set 0 _).set 1 _).set 2 _).set 3 _).set 4 _, BW9 hb⟩ ?_
  rintro W ⟨h3, hbW⟩
  refine bodyPost_ret (v := .tuple #[.agg #[.int .i64 0, .int .i64 0, .int .i64 0, .slice none 0 0, .int .i64 0], .bool false]) ?_ rfl ⟨_, rfl, hbW⟩
  exact results_ct (a := 4) (t := 5) Try.results9 rfl rfl (run_loadVar_mid W (w.heap.size + 1) 0 _ [.int .i64 0, .int .i64 0, .int .i64 0, .slice none 0 0, .int .i64 0] _ h3.range Try.underlying32 rfl Try.infoRow7)
end Go.Proofs.Ytegkhkcnoahhdaa
/-
  What the laws of stage 7 begin with: a fold of one batch.
  There are no conditions.
-/
namespace Go.Proofs.Ytegkhkcnoahhdaa
open Go.RowKit
set_option maxRecDepth 100000

def oF : Opn := ⟨4, ⟨#[110]⟩, zR, zR, 3⟩
def bF : Bat := ⟨2, 1, [oF]⟩
theorem oF_ok : ∀ o ∈ [oF], o.ok := fun o ho => by
  have : o = oF := by simpa using ho
  subst this
  exact ⟨⟨by decide, by decide⟩, by decide, zR_ok, zR_ok, ⟨by decide, by decide⟩⟩
theorem bF_ok : bF.ok := ⟨⟨by decide, by decide⟩, ⟨by decide, by decide⟩, oF_ok⟩
theorem bF_next : nextB fo0 bF = true := by decide +kernel
def fF : Fo := nextFo fo0 bF
theorem fF_good : FoG fF := foG_0.next bF_ok bF_next (by decide)
theorem fF_no : nextB fF bF = false := by decide +kernel
theorem fF_step : stepF fo0 bF = fF := by unfold stepF; rw [if_pos bF_next]; rfl
theorem fF_stay : stepF fF bF = fF := by unfold stepF; rw [if_neg (by rw [fF_no]; decide)]
theorem fF_err : (dApply [] [oF]).2 = 0 := by decide +kernel
theorem fF_row : rowF fo0 bF = ⟨1, ⟨2, 1, [oF]⟩, 0⟩ := by
  unfold rowF; rw [if_pos bF_next]
  show (⟨0 + 1, bF, (((dApply [] [oF]).2 : Nat) : Int)⟩ : Rw) = _
  rw [fF_err]; rfl
theorem fF_none : rowF fF bF = ⟨0, ⟨0, 0, []⟩, 0⟩ := by unfold rowF; rw [if_neg (by rw [fF_no]; decide)]; rfl
theorem fF_told : fF.told (2 : Int).toNat = ⟨1, ⟨2, 1, [oF]⟩, 0⟩ := by
  show (⟨0 + 1, bF, (((dApply [] [oF]).2 : Nat) : Int)⟩ : Rw) = _
  rw [fF_err]; rfl
theorem fF_len : fF.d.length = 1 := by decide +kernel
set_option maxHeartbeats 1000000 in
theorem begun7_any (w : World) : Calls Try.prog 6 #[] w (Bl true w) := by
  have hb := Below.refl w.heap.size w
  go_enter Try.func6, Try.ntmps6
  go_wp2_with fail
  refine (fnew_is w.heap.size _ (by have := hb.size; first | omega | exact Nat.le_refl _ | (simp; omega))).mono ?_
  rintro e k1 ⟨rfl, hd9, h⟩
  have hk : Below w.heap.size w k1 := HK9 h
  have hz := h.size
  try simp at hz
  replace hb : Below w.heap.size w k1 := hb.trans (hk.mono hb.size)
  clear h hk
  have HD := Lib.hid hd9; clear hd9
  have hltHD : w.heap.size < k1.heap.size := HD.out.lt
  go_wp2_with fail
  refine (fnext_to w.heap.size _ _ _ fo0 fF 2 1 [oF] true 1 2 1 0 [oF] _ (Fd.below HD.out BL9) (d_ops_one _ _ _ oF (d_range9 (a := .int .i64 4) (b := .string ⟨#[110]⟩) (c := .int .i64 0) (d := .int .i64 0) (e := .string ⟨#[]⟩) (f := .int .i64 0) (h := .int .i64 0) (i := .string ⟨#[]⟩) (j := .int .i64 3) (by go_simp) (by go_simp) (by go_simp) (by go_simp) (by go_simp) (by go_simp) (by go_simp) (by go_simp) (by go_simp)) (Nat.lt_succ_self _)) LT9 bF_ok (by decide) bF_next fF_step fF_row).mono ?_
  rintro e k2 ⟨A1, c1, rfl, ⟨ho9, hd9⟩, hgr⟩
  have hz9 := hgr.size
  try simp at hz9
  replace hb : Below w.heap.size w k2 := Fd.frame (w0 := w) (hb := hgr) (h := Fd.below HD.out BL9) (h0 := (BB9 hb)) (hB := by have := hb.size; first | omega | (simp; omega))
  replace HD := Lib.hid hd9
  clear hd9
  clear ho9
  clear hgr
  go_wp2_with fail
  refine (fnext_to w.heap.size _ _ _ fF fF 2 1 [oF] false 0 0 0 0 [] _ (Fd.below HD.out BL9) (d_ops_one _ _ _ oF (d_range9 (a := .int .i64 4) (b := .string ⟨#[110]⟩) (c := .int .i64 0) (d := .int .i64 0) (e := .string ⟨#[]⟩) (f := .int .i64 0) (h := .int .i64 0) (i := .string ⟨#[]⟩) (j := .int .i64 3) (by go_simp) (by go_simp) (by go_simp) (by go_simp) (by go_simp) (by go_simp) (by go_simp) (by go_simp) (by go_simp)) (Nat.lt_succ_self _)) LT9 bF_ok (by decide) fF_no fF_stay fF_none).mono ?_
  rintro e k3 ⟨A2, c2, rfl, ⟨ho9, hd9⟩, hgr⟩
  have hz9 := hgr.size
  try simp at hz9
  replace hb : Below w.heap.size w k3 := Fd.frame (w0 := w) (hb := hgr) (h := Fd.below HD.out BL9) (h0 := (BB9 hb)) (hB := by have := hb.size; first | omega | (simp; omega))
  have r0 : k3.cell? ⟨k2.heap.size, 0, none⟩ = some (.int .i64 1) := (hgr.cell_far ⟨k2.heap.size, 0, none⟩ LT9 (fun e => by injection e with e; simp only at e; omega)).trans (by go_simp)
  have r4 : k3.cell? ⟨k2.heap.size, 4, none⟩ = some (.int .i64 0) := (hgr.cell_far ⟨k2.heap.size, 4, none⟩ LT9 (fun e => by injection e with e; simp only at e; omega)).trans (by go_simp)
  replace HD := Lib.hid hd9
  clear hd9
  have lt0 : k2.heap.size < k3.heap.size := LT9
  clear ho9
  clear hgr
  go_wp2_with fail
  refine (ftold_to w.heap.size _ fF 2 1 2 1 0 [oF] true _ (Fd.below HD.out BL9) fF_told (by decide +kernel)).mono ?_
  rintro e k4 ⟨A3, c3, rfl, ho9, h⟩
  have hk : Below k3.heap.size k3 k4 := HK9 h
  have hz := h.size
  try simp at hz
  replace r0 : k4.cell? ⟨k2.heap.size, 0, none⟩ = some (.int .i64 1) := (hk.cell (p := ⟨k2.heap.size, 0, none⟩) LT9).trans r0
  replace r4 : k4.cell? ⟨k2.heap.size, 4, none⟩ = some (.int .i64 0) := (hk.cell (p := ⟨k2.heap.size, 4, none⟩) LT9).trans r4
  replace HD := Lib.hid (Fd.below HD.out hk)
  replace hb : Below w.heap.size w k4 := hb.trans (hk.mono hb.size)
  have lt0 : k2.heap.size < k4.heap.size := LT9
  clear ho9
  clear h hk
  go_wp2_with fail
  refine (fenc_to w.heap.size _ fF _ _ (Fd.below HD.out BL9) rfl).mono ?_
  rintro e k5 ⟨A4, c4, rfl, hE, h⟩
  have hk : Below k4.heap.size k4 k5 := HK9 h
  have hz := h.size
  try simp at hz
  replace r0 : k5.cell? ⟨k2.heap.size, 0, none⟩ = some (.int .i64 1) := (hk.cell (p := ⟨k2.heap.size, 0, none⟩) LT9).trans r0
  replace r4 : k5.cell? ⟨k2.heap.size, 4, none⟩ = some (.int .i64 0) := (hk.cell (p := ⟨k2.heap.size, 4, none⟩) LT9).trans r4
  have t0 : k5.cell? ⟨k4.heap.size, 0, none⟩ = some (.int .i64 1) := (h.cell (p := ⟨k4.heap.size, 0, none⟩) LT9).trans (by go_simp)
  replace HD := Lib.hid (Fd.below HD.out hk)
  replace hb : Below w.heap.size w k5 := hb.trans (hk.mono hb.size)
  have lt0 : k2.heap.size < k5.heap.size := LT9
  have lt1 : k4.heap.size < k5.heap.size := LT9
  clear h hk
  have HE := Lib.hid hE; clear hE
  go_wp2_with fail
  refine (fdec_yes _ _ _ w.heap.size _ _ fF _ (Byt.of_own HE.out) (Nat.le_refl _) (by have := hb.size; omega) (Nat.le_trans (bytesF_short fF_good) (by decide)) (decF_bytes fF_good)).mono ?_
  rintro e k6 ⟨gc, rfl, ⟨hc, hcl⟩, h⟩
  have hk : Below k5.heap.size k5 k6 := HK9 h
  have hz := h.size
  try simp at hz
  replace r0 : k6.cell? ⟨k2.heap.size, 0, none⟩ = some (.int .i64 1) := (hk.cell (p := ⟨k2.heap.size, 0, none⟩) LT9).trans r0
  replace r4 : k6.cell? ⟨k2.heap.size, 4, none⟩ = some (.int .i64 0) := (hk.cell (p := ⟨k2.heap.size, 4, none⟩) LT9).trans r4
  replace t0 : k6.cell? ⟨k4.heap.size, 0, none⟩ = some (.int .i64 1) := (hk.cell (p := ⟨k4.heap.size, 0, none⟩) LT9).trans t0
  replace HD := Lib.hid (Fd.below HD.out hk)
  replace HE := Lib.hid (ownsRow_below HE.out hk)
  replace hb : Below w.heap.size w k6 := hb.trans (hk.mono hb.size)
  have lt0 : k2.heap.size < k6.heap.size := LT9
  have lt1 : k4.heap.size < k6.heap.size := LT9
  clear h hk
  have HC := Lib.hid hc
  have hltHC : gc < k6.heap.size := HC.out.lt
  clear hc
  go_wp2_with fail
  refine (fplace_to w.heap.size _ fF 1 _ (Fd.below HD.out BL9) rfl).mono ?_
  rintro e k7 ⟨rfl, h⟩
  have hk : Below k6.heap.size k6 k7 := HK9 h
  have hz := h.size
  try simp at hz
  replace r0 : k7.cell? ⟨k2.heap.size, 0, none⟩ = some (.int .i64 1) := (hk.cell (p := ⟨k2.heap.size, 0, none⟩) LT9).trans r0
  replace r4 : k7.cell? ⟨k2.heap.size, 4, none⟩ = some (.int .i64 0) := (hk.cell (p := ⟨k2.heap.size, 4, none⟩) LT9).trans r4
  replace t0 : k7.cell? ⟨k4.heap.size, 0, none⟩ = some (.int .i64 1) := (hk.cell (p := ⟨k4.heap.size, 0, none⟩) LT9).trans t0
  replace HD := Lib.hid (Fd.below HD.out hk)
  replace HE := Lib.hid (ownsRow_below HE.out hk)
  replace HC := Lib.hid (Fd.below HC.out hk)
  replace hb : Below w.heap.size w k7 := hb.trans (hk.mono hb.size)
  have lt0 : k2.heap.size < k7.heap.size := LT9
  have lt1 : k4.heap.size < k7.heap.size := LT9
  clear h hk
  go_wp2_with fail
  refine (fLast_is w.heap.size _ fF 2 1 _ (Fd.below HD.out BL9) (by decide +kernel)).mono ?_
  rintro e k8 ⟨rfl, h⟩
  have hk : Below k7.heap.size k7 k8 := HK9 h
  have hz := h.size
  try simp at hz
  replace r0 : k8.cell? ⟨k2.heap.size, 0, none⟩ = some (.int .i64 1) := (hk.cell (p := ⟨k2.heap.size, 0, none⟩) LT9).trans r0
  replace r4 : k8.cell? ⟨k2.heap.size, 4, none⟩ = some (.int .i64 0) := (hk.cell (p := ⟨k2.heap.size, 4, none⟩) LT9).trans r4
  replace t0 : k8.cell? ⟨k4.heap.size, 0, none⟩ = some (.int .i64 1) := (hk.cell (p := ⟨k4.heap.size, 0, none⟩) LT9).trans t0
  replace HD := Lib.hid (Fd.below HD.out hk)
  replace HE := Lib.hid (ownsRow_below HE.out hk)
  replace HC := Lib.hid (Fd.below HC.out hk)
  replace hb : Below w.heap.size w k8 := hb.trans (hk.mono hb.size)
  have lt0 : k2.heap.size < k8.heap.size := LT9
  have lt1 : k4.heap.size < k8.heap.size := LT9
  clear h hk
  go_wp2_with fail
  refine (fLast_is w.heap.size _ fF 1 0 _ (Fd.below HD.out BL9) (by decide +kernel)).mono ?_
  rintro e k9 ⟨rfl, h⟩
  have hk : Below k8.heap.size k8 k9 := HK9 h
  have hz := h.size
  try simp at hz
  replace r0 : k9.cell? ⟨k2.heap.size, 0, none⟩ = some (.int .i64 1) := (hk.cell (p := ⟨k2.heap.size, 0, none⟩) LT9).trans r0
  replace r4 : k9.cell? ⟨k2.heap.size, 4, none⟩ = some (.int .i64 0) := (hk.cell (p := ⟨k2.heap.size, 4, none⟩) LT9).trans r4
  replace t0 : k9.cell? ⟨k4.heap.size, 0, none⟩ = some (.int .i64 1) := (hk.cell (p := ⟨k4.heap.size, 0, none⟩) LT9).trans t0
  replace HD := Lib.hid (Fd.below HD.out hk)
  replace HE := Lib.hid (ownsRow_below HE.out hk)
  replace HC := Lib.hid (Fd.below HC.out hk)
  replace hb : Below w.heap.size w k9 := hb.trans (hk.mono hb.size)
  have lt0 : k2.heap.size < k9.heap.size := LT9
  have lt1 : k4.heap.size < k9.heap.size := LT9
  clear h hk
  go_wp2_with fail
  refine (feq_same w.heap.size w.heap.size _ _ fF _ (Fd.below HC.out BL9) (Fd.below HD.out BL9)).mono ?_
  rintro e k10 ⟨rfl, h⟩
  have hk : Below k9.heap.size k9 k10 := HK9 h
  have hz := h.size
  try simp at hz
  replace r0 : k10.cell? ⟨k2.heap.size, 0, none⟩ = some (.int .i64 1) := (hk.cell (p := ⟨k2.heap.size, 0, none⟩) LT9).trans r0
  replace r4 : k10.cell? ⟨k2.heap.size, 4, none⟩ = some (.int .i64 0) := (hk.cell (p := ⟨k2.heap.size, 4, none⟩) LT9).trans r4
  replace t0 : k10.cell? ⟨k4.heap.size, 0, none⟩ = some (.int .i64 1) := (hk.cell (p := ⟨k4.heap.size, 0, none⟩) LT9).trans t0
  replace HD := Lib.hid (Fd.below HD.out hk)
  replace HE := Lib.hid (ownsRow_below HE.out hk)
  replace HC := Lib.hid (Fd.below HC.out hk)
  replace hb : Below w.heap.size w k10 := hb.trans (hk.mono hb.size)
  have lt0 : k2.heap.size < k10.heap.size := LT9
  have lt1 : k4.heap.size < k10.heap.size := LT9
  clear h hk
  go_wp2_with fail
  refine (fdoc_is w.heap.size _ fF _ (Fd.below HD.out BL9) (by have := hb.size; omega)).mono ?_
  rintro e k11 ⟨gq, rfl, ⟨hq, hql⟩, h⟩
  have hk : Below k10.heap.size k10 k11 := HK9 h
  have hz := h.size
  try simp at hz
  replace r0 : k11.cell? ⟨k2.heap.size, 0, none⟩ = some (.int .i64 1) := (hk.cell (p := ⟨k2.heap.size, 0, none⟩) LT9).trans r0
  replace r4 : k11.cell? ⟨k2.heap.size, 4, none⟩ = some (.int .i64 0) := (hk.cell (p := ⟨k2.heap.size, 4, none⟩) LT9).trans r4
  replace t0 : k11.cell? ⟨k4.heap.size, 0, none⟩ = some (.int .i64 1) := (hk.cell (p := ⟨k4.heap.size, 0, none⟩) LT9).trans t0
  replace HD := Lib.hid (Fd.below HD.out hk)
  replace HE := Lib.hid (ownsRow_below HE.out hk)
  replace HC := Lib.hid (Fd.below HC.out hk)
  replace hb : Below w.heap.size w k11 := hb.trans (hk.mono hb.size)
  have lt0 : k2.heap.size < k11.heap.size := LT9
  have lt1 : k4.heap.size < k11.heap.size := LT9
  clear h hk
  have HQ := Lib.hid hq
  have hltHQ : gq < k11.heap.size := HQ.out.lt
  clear hq
  go_wp2_with fail
  refine (lkeys_is w.heap.size _ 1 fF.d _ (Dc.below HQ.out BL9) fF_len).mono ?_
  rintro e k12 ⟨gk, rfl, hK, h⟩
  have hk : Below k11.heap.size k11 k12 := HK9 h
  have hz := h.size
  try simp at hz
  replace r0 : k12.cell? ⟨k2.heap.size, 0, none⟩ = some (.int .i64 1) := (hk.cell (p := ⟨k2.heap.size, 0, none⟩) LT9).trans r0
  replace r4 : k12.cell? ⟨k2.heap.size, 4, none⟩ = some (.int .i64 0) := (hk.cell (p := ⟨k2.heap.size, 4, none⟩) LT9).trans r4
  replace t0 : k12.cell? ⟨k4.heap.size, 0, none⟩ = some (.int .i64 1) := (hk.cell (p := ⟨k4.heap.size, 0, none⟩) LT9).trans t0
  replace HD := Lib.hid (Fd.below HD.out hk)
  replace HE := Lib.hid (ownsRow_below HE.out hk)
  replace HC := Lib.hid (Fd.below HC.out hk)
  replace HQ := Lib.hid (Dc.below HQ.out hk)
  replace hb : Below w.heap.size w k12 := hb.trans (hk.mono hb.size)
  have lt0 : k2.heap.size < k12.heap.size := LT9
  have lt1 : k4.heap.size < k12.heap.size := LT9
  clear h hk
  go_wp2
  go_ret
  exact ⟨rfl, by first | exact hb | exact hb.alloc hb.size _⟩
end Go.Proofs.Ytegkhkcnoahhdaa
