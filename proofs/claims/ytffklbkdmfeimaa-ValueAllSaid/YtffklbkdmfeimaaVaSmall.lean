/-
  Package value's Kind, Raw, AsInt, MustInt and Eq say what a value is.
  A text has at most 1,000,000 bytes.
-/
import Derived.Test.YtffklbkdmfeimaaVaOf
namespace Go.Proofs.Ytffklbkdmfeimaa
open Go.RowKit
set_option maxRecDepth 100000

theorem Try.as_nn (v : Value) (w : World) : (Instr.typeAssert (.iface 51 v) 20 51 true).run Try.prog w = .ok (.tuple #[v, .bool true]) w := by kernel_rfl
theorem Try.as_tn (v : Value) (w : World) : (Instr.typeAssert (.iface 52 v) 20 51 true).run Try.prog w = .ok (.tuple #[.int .i64 0, .bool false]) w := by kernel_rfl
theorem Try.as_0n (w : World) : (Instr.typeAssert .nilIface 20 51 true).run Try.prog w = .ok (.tuple #[.int .i64 0, .bool false]) w := by kernel_rfl
theorem Try.as_nt (v : Value) (w : World) : (Instr.typeAssert (.iface 51 v) 20 52 true).run Try.prog w = .ok (.tuple #[.string ByteArray.empty, .bool false]) w := by kernel_rfl
theorem Try.as_tt (v : Value) (w : World) : (Instr.typeAssert (.iface 52 v) 20 52 true).run Try.prog w = .ok (.tuple #[v, .bool true]) w := by kernel_rfl
theorem Try.as_0t (w : World) : (Instr.typeAssert .nilIface 20 52 true).run Try.prog w = .ok (.tuple #[.string ByteArray.empty, .bool false]) w := by kernel_rfl

def IntE (k : Int) (w : World) (e : Ending) (w' : World) : Prop := e = .returned (.int .i64 k) ∧ Below w.heap.size w w'
def RawE (r : Raw) (w : World) (e : Ending) (w' : World) : Prop := e = .returned r.val ∧ Below w.heap.size w w'
def OkE (k : Int) (b : Bool) (w : World) (e : Ending) (w' : World) : Prop := e = .returned (.tuple #[.int .i64 k, .bool b]) ∧ Below w.heap.size w w'
def Va.int : Va → Int
  | .num n => n
  | _ => 0
def Va.isInt : Va → Bool
  | .num _ => true
  | _ => false
def Va.len : Va → Nat
  | .txt s => s.size
  | _ => 0

set_option maxHeartbeats 1000000 in
theorem vkind_any (v : Va) (w : World) : Calls Try.prog 15 #[v.val] w (IntE v.raw.kind w) := by
  have a1 := Try.as_nn
  have a2 := Try.as_tn
  have a3 := Try.as_0n
  have a4 := Try.as_tt
  have a5 := Try.as_0t
  cases v <;> unfold Va.val <;> go_enter Try.func15, Try.ntmps15
  all_goals (go_wp2; go_ret; exact ⟨rfl, below_one _ _⟩)

set_option maxHeartbeats 1000000 in
theorem vasInt_any (v : Va) (w : World) : Calls Try.prog 18 #[v.val] w (OkE v.int v.isInt w) := by
  have a1 := Try.as_nn
  have a2 := Try.as_tn
  have a3 := Try.as_0n
  cases v <;> unfold Va.val <;> go_enter Try.func18, Try.ntmps18
  all_goals (go_wp2; go_ret2; exact ⟨rfl, below_one _ _⟩)

set_option maxHeartbeats 1000000 in
theorem vraw_any (v : Va) (w : World) (hv : v.len ≤ 1000000) : Calls Try.prog 17 #[v.val] w (RawE v.raw w) := by
  have a1 := Try.as_nn
  have a2 := Try.as_tn
  have a3 := Try.as_0n
  have a4 := Try.as_tt
  have a5 := Try.as_0t
  cases v with
  | none =>
    unfold Va.val
    go_enter Try.func17, Try.ntmps17
    go_wp2
    exact bodyPost_ret (v := Va.none.raw.val) (by simp [results, Try.results17, go_sem, Va.raw, Raw.val]) rfl ⟨rfl, below_two _ _ _⟩
  | num n =>
    unfold Va.val
    go_enter Try.func17, Try.ntmps17
    go_wp2
    exact bodyPost_ret (v := (Va.num n).raw.val) (by simp [results, Try.results17, go_sem, Va.raw, Raw.val]) rfl ⟨rfl, below_two _ _ _⟩
  | txt s =>
    have hs : s.size ≤ 281474976710656 := by simp only [Va.len] at hv; omega
    unfold Va.val
    go_enter Try.func17, Try.ntmps17
    go_wp2_with fail
    refine (clone_any s _ hs).mono ?_
    rintro e w1 ⟨rfl, hb⟩
    have q0 : w1.cell? ⟨w.heap.size + 1, 0, none⟩ = some (.int .i64 0) := (hb.cell (p := ⟨w.heap.size + 1, 0, none⟩) (by simp)).trans (by go_simp)
    have f0 : w1.frozen? ⟨w.heap.size + 1, 0, none⟩ = false := (hb.frozen (p := ⟨w.heap.size + 1, 0, none⟩) (by simp)).trans (by go_simp)
    have q1 : w1.cell? ⟨w.heap.size + 1, 1, none⟩ = some (.int .i64 0) := (hb.cell (p := ⟨w.heap.size + 1, 1, none⟩) (by simp)).trans (by go_simp)
    have f1 : w1.frozen? ⟨w.heap.size + 1, 1, none⟩ = false := (hb.frozen (p := ⟨w.heap.size + 1, 1, none⟩) (by simp)).trans (by go_simp)
    have q2 : w1.cell? ⟨w.heap.size + 1, 2, none⟩ = some (.string ⟨#[]⟩) := (hb.cell (p := ⟨w.heap.size + 1, 2, none⟩) (by simp)).trans (by go_simp)
    have f2 : w1.frozen? ⟨w.heap.size + 1, 2, none⟩ = false := (hb.frozen (p := ⟨w.heap.size + 1, 2, none⟩) (by simp)).trans (by go_simp)
    have hbw : Below w.heap.size w w1 := (below_two w _ _).trans (hb.mono (by simp; omega))
    clear hb
    go_wp2
    exact bodyPost_ret (v := (Va.txt s).raw.val) (by simp [results, Try.results17, go_sem, Va.raw, Raw.val, q0, q1, q2]) rfl ⟨rfl, ((hbw.setCell (by simp) _).setCell (by simp) _).setCell (by simp) _⟩
end Go.Proofs.Ytffklbkdmfeimaa
