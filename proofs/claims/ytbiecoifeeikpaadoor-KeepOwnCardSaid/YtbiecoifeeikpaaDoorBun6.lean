/-
  Contracts of the program's functions, of the reference's, and plain lemmas on what they answer (part 6 of 7).
  Each lemma names its conditions.
-/
import Derived.Test.YtbiecoifeeikpaaDoorBun5
/-
  The reference's Write.
  The conditions: the log has 200 entries at the most, its snapshot's Index is one that may be; what is written has 200 entries at the most, their texts are short.
-/
namespace Go.Proofs.YtbiecoifeeikpaaDoor
open Go.RowKit Go.Deep
set_option maxRecDepth 100000

/-- entries stand where another block is written -/
theorem ens_set7 {N : Nat → Prop} {w : World} {b : Nat} {v : Value} {L : List Ent} (h : Ens N w v L) (hN : ¬ N b) (v0 v1 v2 v3 v4 v5 v6 : Value) :
    Ens N (((((((w.setCell ⟨b, 0, none⟩ v0).setCell ⟨b, 1, none⟩ v1).setCell ⟨b, 2, none⟩ v2).setCell ⟨b, 3, none⟩ v3).setCell ⟨b, 4, none⟩ v4).setCell ⟨b, 5, none⟩ v5).setCell ⟨b, 6, none⟩ v6) v L :=
  h.keep fun _ hp hl =>
    have ho : Off (fun i => i = b) w (((((((w.setCell ⟨b, 0, none⟩ v0).setCell ⟨b, 1, none⟩ v1).setCell ⟨b, 2, none⟩ v2).setCell ⟨b, 3, none⟩ v3).setCell ⟨b, 4, none⟩ v4).setCell ⟨b, 5, none⟩ v5).setCell ⟨b, 6, none⟩ v6) :=
      (((((((Off.refl (fun i => i = b) w).set (g := b) (j := 0) (.inl rfl)).set (g := b) (j := 1) (.inl rfl)).set (g := b) (j := 2) (.inl rfl)).set (g := b) (j := 3) (.inl rfl)).set (g := b) (j := 4) (.inl rfl)).set (g := b) (j := 5) (.inl rfl)).set (g := b) (j := 6) (.inl rfl)
    ho.cell hl fun e => hN (e ▸ hp)
/-- what came of Write -/
def WrS (N : Nat → Prop) (k : Kst) (r : Int × Kst) (b : Nat) (w : World) (e : Ending) (w' : World) : Prop :=
  ∃ v, e = .returned (.tuple #[.agg #[.int .i64 k.ht, .int .i64 k.hv, .int .i64 k.s.ix, .int .i64 k.s.st, .string k.s.conf, .string k.s.data, v], .int .i64 r.1]) ∧ Ens (fun j => N j ∨ b ≤ j) w' v r.2.log ∧ Below b w w'
set_option maxHeartbeats 2000000 in
theorem rwriteS_any (ht hv ix st : Int) (cf dt : ByteArray) (lg : List Ent) (N M : Nat → Prop) (A : Option Addr) (n c : Nat) (A2 : Option Addr) (m c2 : Nat) (l : List Ent) (w : World) (hE : Ens N w (.slice A n c) lg) (hE2 : Ens M w (.slice A2 m c2) l) (h0 : 0 ≤ ix) (h1 : ix ≤ 1099511627776) (hn : n ≤ 200) (hm : m ≤ 200) (hd : ∀ e ∈ l, e.data.size ≤ 1050000) :
    Calls Tryd.prog 9 #[.agg #[.int .i64 ht, .int .i64 hv, .int .i64 ix, .int .i64 st, .string cf, .string dt, .slice A n c], .slice A2 m c2] w
      (WrS N ⟨ht, hv, ⟨ix, st, cf, dt⟩, lg⟩ (write11 ⟨ht, hv, ⟨ix, st, cf, dt⟩, lg⟩ l) w.heap.size w) := by
  obtain ⟨k, hk⟩ : ∃ k : Kst, (⟨ht, hv, ⟨ix, st, cf, dt⟩, lg⟩ : Kst) = k := ⟨_, rfl⟩
  have hnc : n ≤ c := hE.len.2
  have HNL := Lib.hid hE.len.1
  have HML := Lib.hid hE2.len.1
  have HK := Lib.hid hk
  have HDD := Lib.hid hd
  have HE := Lib.hid hE
  have HE2 := Lib.hid hE2
  obtain ⟨r, hr⟩ : ∃ r, write11 k l = r := ⟨_, rfl⟩
  have HR := Lib.hid hr
  rw [hk, hr]
  clear hE hE2 hk hd hr
  obtain ⟨b, hb⟩ : ∃ b, w.heap.size = b := ⟨_, rfl⟩
  rw [hb]
  go_enter Tryd.func9, Tryd.ntmps9
  go_wp2_with fail
  obtain ⟨W1, hW1⟩ : ∃ W, w.alloc (.cells #[.int .i64 ht, .int .i64 hv, .int .i64 ix, .int .i64 st, .string cf, .string dt, .slice A n c] 38) = W := ⟨_, rfl⟩
  rw [hW1]
  obtain ⟨W2, hW2⟩ : ∃ W, W1.alloc (.cells #[.int .i64 0, .int .i64 0, .int .i64 0, .int .i64 0, .string ⟨#[]⟩, .string ⟨#[]⟩, .slice none 0 0] 38) = W := ⟨_, rfl⟩
  rw [hW2]
  obtain ⟨W, hW⟩ : ∃ W, W2.alloc (.cells #[.int .i64 ht, .int .i64 hv, .int .i64 ix, .int .i64 st, .string cf, .string dt, .slice A n c] 38) = W := ⟨_, rfl⟩
  rw [hW]
  have z1 : W1.heap.size = b + 1 := by rw [← hW1, World.size_alloc, hb]
  have z2 : W2.heap.size = b + 2 := by rw [← hW2, World.size_alloc, z1]
  have b1 : Below b w W1 := by rw [← hW1, ← hb]; exact below_new _ _
  have b2 : Below (b + 1) W1 W2 := by rw [← hW2, ← z1]; exact below_new _ _
  have b3 : Below (b + 2) W2 W := by rw [← hW, ← z2]; exact below_new _ _
  have rs : Rt W b 38 [.int .i64 ht, .int .i64 hv, .int .i64 ix, .int .i64 st, .string cf, .string dt, .slice A n c] := Rt.under (Rt.under (show Rt W1 b _ _ by rw [← hW1]; exact Rt.new_at w b _ _ hb) b2 (by omega)) b3 (by omega)
  have rr : Rt W (b + 1) 38 [.int .i64 0, .int .i64 0, .int .i64 0, .int .i64 0, .string ⟨#[]⟩, .string ⟨#[]⟩, .slice none 0 0] := (show Rt W2 (b + 1) _ _ by rw [← hW2]; exact Rt.new_at W1 (b + 1) _ _ z1).under b3 (by omega)
  have rx : Rt W (b + 2) 38 [.int .i64 ht, .int .i64 hv, .int .i64 ix, .int .i64 st, .string cf, .string dt, .slice A n c] := by rw [← hW]; exact Rt.new_at W2 (b + 2) _ _ z2
  have hBW : Below b w W := (b1.trans (b2.mono (by omega))).trans (b3.mono (by omega))
  have HRS := Lib.hid rs
  have HRR := Lib.hid rr
  have HRX := Lib.hid rx
  have HBW := Lib.hid hBW
  have HBb := Lib.hid hb
  have HEW := Lib.hid (((HE.out.mono (M := fun j => N j ∧ j < b) (fun j hj hl => ⟨hj, by rw [← hb]; exact hl⟩)).below (by rw [hb]; exact hBW)).mono (M := fun j => (N j ∧ j < b) ∨ b + 3 ≤ j) (fun j hj _ => .inl hj))
  clear rs rr rx hBW b1 b2 b3 z1 z2 hb hW1 hW2 hW
  go_loopw [7] (fun i wr => ∃ (j : Nat) (Ax : Option Addr) (nx cx : Nat) (Lx : List Ent), i = .int .i64 (j : Int) ∧ j ≤ m ∧ Rt wr b 38 [.int .i64 ht, .int .i64 hv, .int .i64 ix, .int .i64 st, .string cf, .string dt, .slice A n c] ∧ Rt wr (b + 1) 38 [.int .i64 0, .int .i64 0, .int .i64 0, .int .i64 0, .string ⟨#[]⟩, .string ⟨#[]⟩, .slice none 0 0] ∧ Rt wr (b + 2) 38 [.int .i64 ht, .int .i64 hv, .int .i64 ix, .int .i64 st, .string cf, .string dt, .slice Ax nx cx] ∧ Ens (fun j => (N j ∧ j < b) ∨ b + 3 ≤ j) wr (.slice Ax nx cx) Lx ∧ Wst k l j Lx ∧ Below b w wr) (fun i _ => m - (intOf i).toNat)
  case atStart => exact ⟨0, A, n, c, lg, rfl, Nat.zero_le _, HRS.out, HRR.out, HRX.out, HEW.out, by have h9 := Wst.zero k l; rw [← HK.out] at h9; rw [← HK.out]; exact h9, HBW.out⟩
  case round =>
    obtain ⟨j, Ax, nx, cx, Lx, rfl, hj, hs, hrr, hx, hEx, hWs, hBw⟩ := hrel
    have hlx := hWs.len
    have hnx := hEx.len
    have hnx9 : nx ≤ 400 := by
      have e1 := HNL.out; have e2 := HML.out
      rw [← HK.out] at hlx
      simp only at hlx
      omega
    have hcx9 : nx ≤ cx := hnx.2
    have HNX := Lib.hid hnx.1
    have HS := Lib.hid hs
    have HRR2 := Lib.hid hrr
    have HX := Lib.hid hx
    have HEX := Lib.hid hEx
    have HWS := Lib.hid hWs
    have HBw := Lib.hid hBw
    clear hs hrr hx hEx hWs hBw hlx hnx
    by_cases hlt : j < m
    · have hjl : j < l.length := by rw [← HML.out]; exact hlt
      have hji : (j : Int) < m := by omega
      obtain ⟨⟨ex, et, kd, ed⟩, hej⟩ : ∃ e, l[j] = e := ⟨_, rfl⟩
      obtain ⟨g, o, rfl, hg, c0, c1, c2', c3⟩ := (HE2.out.below (by rw [HBb.out]; exact HBw.out)).four j hjl hej
      have hds := HDD.out _ (List.getElem_mem hjl)
      rw [hej] at hds
      simp only at hds
      obtain ⟨bm, hbm⟩ : ∃ bm, mayEnt10 ⟨ex, et, kd, ed⟩ = bm := ⟨_, rfl⟩
      have hmay : ∀ W, Calls Tryd.prog 22 #[.agg #[.int .i64 ex, .int .i64 et, .int .i64 kd, .string ed]] W (Bl bm W) := fun W => by rw [← hbm]; exact rmayEntry_any ⟨ex, et, kd, ed⟩ W hds
      have HMAY := Lib.hid hmay
      have HBM := Lib.hid hbm
      have HEJ := Lib.hid hej
      have x3 := HX.out.cell (j := 2) rfl
      have hxl := HX.out.lt
      obtain ⟨zs, hzs⟩ : ∃ zs, wr.heap.size = zs := ⟨_, rfl⟩
      have hgz : g < zs := by rw [← hzs]; exact hg
      have hxz : b + 2 < zs := by rw [← hzs]; exact hxl
      have HZS := Lib.hid hzs
      clear hmay hbm hej hg hxl hzs
      by_cases hj0 : j = 0
      · subst hj0
        rw [Nat.zero_mul, Nat.add_zero] at c0 c1 c2' c3
        cases bm with
        | false =>
          go_wp2_with fail
          have hS0 : Below zs wr wr.drew := (Below.refl _ _).drew
          refine wp_region_noPanic ?_
          refine wp_region_held_drew (S := fun W => Below zs wr W) (by kernel_rfl) ?_ (fun hHeld => ?_)
          · exact hS0
          generalize wr.drew = wa at *
          refine wpAnyH_take (i := 0) (oi := { dst := some 17, op := Op.move (Operand.tmp 1), type := 22, pos := "ref.go:281", after := #[], guard := none }) (v := .slice (some ⟨g, o, none⟩) m c2) rfl (by kernel_rfl) (by kernel_rfl) (by kernel_rfl) (fun _ _ _ h => h) (Or.inl ⟨by rfl, fun w hSw => ?_⟩) (by assumption) ?_
          · (try dsimp only at hSw)
            go_simp
          try simp only [Act.put, List.setIfInBounds_toArray, List.set_cons_zero, List.set_cons_succ]
          refine wpAnyH_take (i := 1) (oi := { dst := some 18, op := Op.move (Operand.tmp 7), type := 3, pos := "ref.go:281", after := #[], guard := none }) (v := .int .i64 0) rfl (by kernel_rfl) (by kernel_rfl) (by kernel_rfl) (fun _ _ _ h => h) (Or.inl ⟨by rfl, fun w hSw => ?_⟩) (by assumption) ?_
          · (try dsimp only at hSw)
            go_simp
          try simp only [Act.put, List.setIfInBounds_toArray, List.set_cons_zero, List.set_cons_succ]
          refine wpAnyH_take (i := 2) (oi := { dst := some 19, op := Op.indexAddr 22 (Operand.tmp 17) (Operand.tmp 18), type := 0, pos := "ref.go:281", after := #[{ on := 0, ground := Ground.data }, { on := 1, ground := Ground.data }], guard := none }) (v := .pointer (some ⟨g, o, none⟩)) rfl (by kernel_rfl) (by kernel_rfl) (by kernel_rfl) (fun _ _ _ h => h) (Or.inl ⟨by rfl, fun w hSw => ?_⟩) (by assumption) ?_
          · (try dsimp only at hSw)
            go_simp
          try simp only [Act.put, List.setIfInBounds_toArray, List.set_cons_zero, List.set_cons_succ]
          refine wpAnyH_take (i := 3) (oi := { dst := some 20, op := Op.load 41 (Operand.tmp 19), type := 41, pos := "ref.go:281", after := #[{ on := 2, ground := Ground.data }], guard := none }) (v := .agg #[.int .i64 ex, .int .i64 et, .int .i64 kd, .string ed]) rfl (by kernel_rfl) (by kernel_rfl) (by kernel_rfl) (fun _ _ _ h => h) (Or.inl ⟨by rfl, fun w hSw => ?_⟩) (by assumption) ?_
          · (try dsimp only at hSw)
            have q0 := (hSw.cell (p := ⟨g, o, none⟩) hgz).trans c0
            have q1 := (hSw.cell (p := ⟨g, o + 1, none⟩) hgz).trans c1
            have q2 := (hSw.cell (p := ⟨g, o + 2, none⟩) hgz).trans c2'
            have q3 := (hSw.cell (p := ⟨g, o + 3, none⟩) hgz).trans c3
            go_simp
          try simp only [Act.put, List.setIfInBounds_toArray, List.set_cons_zero, List.set_cons_succ]
          refine wpAnyH_ready (rs := [4]) (by kernel_rfl) (by simp) ?_
          refine AllReadyH.cons (o := { dst := some 21, op := Op.call { callee := Callee.value (Operand.func 22), args := #[Operand.tmp 20], argTypes := #[41] }, type := 4, pos := "ref.go:281", after := #[{ on := 3, ground := Ground.data }], guard := none }) rfl (fun K hK => ?_) AllReadyH.nil
          go_simp
          go_at_call 22
          refine (HMAY.out _).mono ?_
          rintro e wb ⟨rfl, h⟩
          have hSb : Below zs wr wb := hHeld.trans (h.mono (by rw [← HZS.out]; exact hHeld.size))
          clear h
          refine hK.out _ _ ?_ (fun hHeld => ?_)
          · exact hSb
          clear hK K
          try simp only [Act.put, List.setIfInBounds_toArray, List.set_cons_zero, List.set_cons_succ]
          refine wpAnyH_take (i := 5) (oi := { dst := some 22, op := Op.unOp UnOp.not 4 (Operand.tmp 21), type := 4, pos := "ref.go:281", after := #[{ on := 4, ground := Ground.data }], guard := none }) (v := .bool true) rfl (by kernel_rfl) (by kernel_rfl) (by kernel_rfl) (fun _ _ _ h => h) (Or.inl ⟨by rfl, fun w hSw => ?_⟩) (by assumption) ?_
          · (try dsimp only at hSw)
            go_simp
          try simp only [Act.put, List.setIfInBounds_toArray, List.set_cons_zero, List.set_cons_succ]
          refine wpAnyH_take (i := 6) (oi := { dst := some 23, op := Op.move (Operand.tmp 22), type := 4, pos := "ref.go:281", after := #[{ on := 5, ground := Ground.data }, { on := 4, ground := Ground.chain }], guard := none }) (v := .bool true) rfl (by kernel_rfl) (by kernel_rfl) (by kernel_rfl) (fun _ _ _ h => h) (Or.inl ⟨by rfl, fun w hSw => ?_⟩) (by assumption) ?_
          · (try dsimp only at hSw)
            go_simp
          try simp only [Act.put, List.setIfInBounds_toArray, List.set_cons_zero, List.set_cons_succ]
          refine wpAnyH_take (i := 7) (oi := { dst := some 24, op := Op.move (Operand.tmp 7), type := 3, pos := "ref.go:281", after := #[{ on := 6, ground := Ground.guard }], guard := some (6, false) }) (v := undef) rfl (by kernel_rfl) (by kernel_rfl) (by kernel_rfl) (fun _ _ _ h => h) (Or.inr ⟨by rfl, rfl⟩) (by assumption) ?_
          try simp only [Act.put, List.setIfInBounds_toArray, List.set_cons_zero, List.set_cons_succ]
          refine wpAnyH_take (i := 8) (oi := { dst := some 25, op := Op.binOp BinOp.gtr 3 (Operand.tmp 24) (Operand.const (Value.int IntKind.i64 0)) 3, type := 4, pos := "ref.go:281", after := #[{ on := 7, ground := Ground.data }, { on := 6, ground := Ground.guard }], guard := some (6, false) }) (v := undef) rfl (by kernel_rfl) (by kernel_rfl) (by kernel_rfl) (fun _ _ _ h => h) (Or.inr ⟨by rfl, rfl⟩) (by assumption) ?_
          try simp only [Act.put, List.setIfInBounds_toArray, List.set_cons_zero, List.set_cons_succ]
          refine wpAnyH_take (i := 9) (oi := { dst := some 26, op := Op.move (Operand.tmp 25), type := 4, pos := "ref.go:281", after := #[{ on := 8, ground := Ground.data }, { on := 6, ground := Ground.chain }, { on := 6, ground := Ground.guard }], guard := some (6, false) }) (v := undef) rfl (by kernel_rfl) (by kernel_rfl) (by kernel_rfl) (fun _ _ _ h => h) (Or.inr ⟨by rfl, rfl⟩) (by assumption) ?_
          try simp only [Act.put, List.setIfInBounds_toArray, List.set_cons_zero, List.set_cons_succ]
          refine wpAnyH_take (i := 10) (oi := { dst := some 27, op := Op.move (Operand.tmp 1), type := 22, pos := "ref.go:281", after := #[{ on := 9, ground := Ground.guard }], guard := some (9, true) }) (v := undef) rfl (by kernel_rfl) (by kernel_rfl) (by kernel_rfl) (fun _ _ _ h => h) (Or.inr ⟨by rfl, rfl⟩) (by assumption) ?_
          try simp only [Act.put, List.setIfInBounds_toArray, List.set_cons_zero, List.set_cons_succ]
          refine wpAnyH_take (i := 11) (oi := { dst := some 28, op := Op.move (Operand.tmp 7), type := 3, pos := "ref.go:281", after := #[{ on := 9, ground := Ground.guard }], guard := some (9, true) }) (v := undef) rfl (by kernel_rfl) (by kernel_rfl) (by kernel_rfl) (fun _ _ _ h => h) (Or.inr ⟨by rfl, rfl⟩) (by assumption) ?_
          try simp only [Act.put, List.setIfInBounds_toArray, List.set_cons_zero, List.set_cons_succ]
          refine wpAnyH_take (i := 12) (oi := { dst := some 29, op := Op.indexAddr 22 (Operand.tmp 27) (Operand.tmp 28), type := 0, pos := "ref.go:281", after := #[{ on := 10, ground := Ground.data }, { on := 11, ground := Ground.data }, { on := 9, ground := Ground.guard }], guard := some (9, true) }) (v := undef) rfl (by kernel_rfl) (by kernel_rfl) (by kernel_rfl) (fun _ _ _ h => h) (Or.inr ⟨by rfl, rfl⟩) (by assumption) ?_
          try simp only [Act.put, List.setIfInBounds_toArray, List.set_cons_zero, List.set_cons_succ]
          refine wpAnyH_take (i := 13) (oi := { dst := some 30, op := Op.fieldAddr 41 (Operand.tmp 29) 0, type := 0, pos := "ref.go:281", after := #[{ on := 12, ground := Ground.data }, { on := 9, ground := Ground.guard }], guard := some (9, true) }) (v := undef) rfl (by kernel_rfl) (by kernel_rfl) (by kernel_rfl) (fun _ _ _ h => h) (Or.inr ⟨by rfl, rfl⟩) (by assumption) ?_
          try simp only [Act.put, List.setIfInBounds_toArray, List.set_cons_zero, List.set_cons_succ]
          refine wpAnyH_take (i := 14) (oi := { dst := some 31, op := Op.load 2 (Operand.tmp 30), type := 2, pos := "ref.go:281", after := #[{ on := 13, ground := Ground.data }, { on := 9, ground := Ground.guard }], guard := some (9, true) }) (v := undef) rfl (by kernel_rfl) (by kernel_rfl) (by kernel_rfl) (fun _ _ _ h => h) (Or.inr ⟨by rfl, rfl⟩) (by assumption) ?_
          try simp only [Act.put, List.setIfInBounds_toArray, List.set_cons_zero, List.set_cons_succ]
          refine wpAnyH_take (i := 15) (oi := { dst := some 32, op := Op.move (Operand.tmp 1), type := 22, pos := "ref.go:281", after := #[{ on := 9, ground := Ground.guard }], guard := some (9, true) }) (v := undef) rfl (by kernel_rfl) (by kernel_rfl) (by kernel_rfl) (fun _ _ _ h => h) (Or.inr ⟨by rfl, rfl⟩) (by assumption) ?_
          try simp only [Act.put, List.setIfInBounds_toArray, List.set_cons_zero, List.set_cons_succ]
          refine wpAnyH_take (i := 16) (oi := { dst := some 33, op := Op.move (Operand.tmp 7), type := 3, pos := "ref.go:281", after := #[{ on := 9, ground := Ground.guard }], guard := some (9, true) }) (v := undef) rfl (by kernel_rfl) (by kernel_rfl) (by kernel_rfl) (fun _ _ _ h => h) (Or.inr ⟨by rfl, rfl⟩) (by assumption) ?_
          try simp only [Act.put, List.setIfInBounds_toArray, List.set_cons_zero, List.set_cons_succ]
          refine wpAnyH_take (i := 17) (oi := { dst := some 34, op := Op.binOp BinOp.sub 3 (Operand.tmp 33) (Operand.const (Value.int IntKind.i64 1)) 3, type := 3, pos := "ref.go:281", after := #[{ on := 16, ground := Ground.data }, { on := 9, ground := Ground.guard }], guard := some (9, true) }) (v := undef) rfl (by kernel_rfl) (by kernel_rfl) (by kernel_rfl) (fun _ _ _ h => h) (Or.inr ⟨by rfl, rfl⟩) (by assumption) ?_
          try simp only [Act.put, List.setIfInBounds_toArray, List.set_cons_zero, List.set_cons_succ]
          refine wpAnyH_take (i := 18) (oi := { dst := some 35, op := Op.indexAddr 22 (Operand.tmp 32) (Operand.tmp 34), type := 0, pos := "ref.go:281", after := #[{ on := 15, ground := Ground.data }, { on := 17, ground := Ground.data }, { on := 9, ground := Ground.guard }], guard := some (9, true) }) (v := undef) rfl (by kernel_rfl) (by kernel_rfl) (by kernel_rfl) (fun _ _ _ h => h) (Or.inr ⟨by rfl, rfl⟩) (by assumption) ?_
          try simp only [Act.put, List.setIfInBounds_toArray, List.set_cons_zero, List.set_cons_succ]
          refine wpAnyH_take (i := 19) (oi := { dst := some 36, op := Op.fieldAddr 41 (Operand.tmp 35) 0, type := 0, pos := "ref.go:281", after := #[{ on := 18, ground := Ground.data }, { on := 9, ground := Ground.guard }], guard := some (9, true) }) (v := undef) rfl (by kernel_rfl) (by kernel_rfl) (by kernel_rfl) (fun _ _ _ h => h) (Or.inr ⟨by rfl, rfl⟩) (by assumption) ?_
          try simp only [Act.put, List.setIfInBounds_toArray, List.set_cons_zero, List.set_cons_succ]
          refine wpAnyH_take (i := 20) (oi := { dst := some 37, op := Op.load 2 (Operand.tmp 36), type := 2, pos := "ref.go:281", after := #[{ on := 19, ground := Ground.data }, { on := 9, ground := Ground.guard }], guard := some (9, true) }) (v := undef) rfl (by kernel_rfl) (by kernel_rfl) (by kernel_rfl) (fun _ _ _ h => h) (Or.inr ⟨by rfl, rfl⟩) (by assumption) ?_
          try simp only [Act.put, List.setIfInBounds_toArray, List.set_cons_zero, List.set_cons_succ]
          refine wpAnyH_take (i := 21) (oi := { dst := some 38, op := Op.binOp BinOp.add 2 (Operand.tmp 37) (Operand.const (Value.int IntKind.i64 1)) 2, type := 2, pos := "ref.go:281", after := #[{ on := 20, ground := Ground.data }, { on := 9, ground := Ground.guard }], guard := some (9, true) }) (v := undef) rfl (by kernel_rfl) (by kernel_rfl) (by kernel_rfl) (fun _ _ _ h => h) (Or.inr ⟨by rfl, rfl⟩) (by assumption) ?_
          try simp only [Act.put, List.setIfInBounds_toArray, List.set_cons_zero, List.set_cons_succ]
          refine wpAnyH_take (i := 22) (oi := { dst := some 39, op := Op.binOp BinOp.neq 2 (Operand.tmp 31) (Operand.tmp 38) 2, type := 4, pos := "ref.go:281", after := #[{ on := 14, ground := Ground.data }, { on := 21, ground := Ground.data }, { on := 9, ground := Ground.guard }], guard := some (9, true) }) (v := undef) rfl (by kernel_rfl) (by kernel_rfl) (by kernel_rfl) (fun _ _ _ h => h) (Or.inr ⟨by rfl, rfl⟩) (by assumption) ?_
          try simp only [Act.put, List.setIfInBounds_toArray, List.set_cons_zero, List.set_cons_succ]
          refine wpAnyH_take (i := 23) (oi := { dst := some 40, op := Op.pick (Operand.tmp 26) (Operand.tmp 39) (Operand.const (Value.bool false)), type := 4, pos := "ref.go:281", after := #[{ on := 9, ground := Ground.data }, { on := 22, ground := Ground.data }, { on := 6, ground := Ground.guard }], guard := some (6, false) }) (v := undef) rfl (by kernel_rfl) (by kernel_rfl) (by kernel_rfl) (fun _ _ _ h => h) (Or.inr ⟨by rfl, rfl⟩) (by assumption) ?_
          try simp only [Act.put, List.setIfInBounds_toArray, List.set_cons_zero, List.set_cons_succ]
          refine wpAnyH_take (i := 24) (oi := { dst := some 41, op := Op.pick (Operand.tmp 23) (Operand.const (Value.bool true)) (Operand.tmp 40), type := 4, pos := "ref.go:281", after := #[{ on := 6, ground := Ground.data }, { on := 23, ground := Ground.data }], guard := none }) (v := .bool true) rfl (by kernel_rfl) (by kernel_rfl) (by kernel_rfl) (fun _ _ _ h => h) (Or.inl ⟨by rfl, fun w hSw => ?_⟩) (by assumption) ?_
          · (try dsimp only at hSw)
            go_simp
          try simp only [Act.put, List.setIfInBounds_toArray, List.set_cons_zero, List.set_cons_succ]
          refine wpAnyH_take (i := 25) (oi := { dst := some 42, op := Op.move (Operand.tmp 41), type := 4, pos := "ref.go:281", after := #[{ on := 24, ground := Ground.data }, { on := 9, ground := Ground.chain }], guard := none }) (v := .bool true) rfl (by kernel_rfl) (by kernel_rfl) (by kernel_rfl) (fun _ _ _ h => h) (Or.inl ⟨by rfl, fun w hSw => ?_⟩) (by assumption) ?_
          · (try dsimp only at hSw)
            go_simp
          try simp only [Act.put, List.setIfInBounds_toArray, List.set_cons_zero, List.set_cons_succ]
          refine wpAnyH_take (i := 26) (oi := { dst := some 43, op := Op.move (Operand.tmp 1), type := 22, pos := "ref.go:281", after := #[{ on := 25, ground := Ground.guard }], guard := some (25, false) }) (v := undef) rfl (by kernel_rfl) (by kernel_rfl) (by kernel_rfl) (fun _ _ _ h => h) (Or.inr ⟨by rfl, rfl⟩) (by assumption) ?_
          try simp only [Act.put, List.setIfInBounds_toArray, List.set_cons_zero, List.set_cons_succ]
          refine wpAnyH_take (i := 27) (oi := { dst := some 44, op := Op.move (Operand.tmp 7), type := 3, pos := "ref.go:281", after := #[{ on := 25, ground := Ground.guard }], guard := some (25, false) }) (v := undef) rfl (by kernel_rfl) (by kernel_rfl) (by kernel_rfl) (fun _ _ _ h => h) (Or.inr ⟨by rfl, rfl⟩) (by assumption) ?_
          try simp only [Act.put, List.setIfInBounds_toArray, List.set_cons_zero, List.set_cons_succ]
          refine wpAnyH_take (i := 28) (oi := { dst := some 45, op := Op.indexAddr 22 (Operand.tmp 43) (Operand.tmp 44), type := 0, pos := "ref.go:281", after := #[{ on := 26, ground := Ground.data }, { on := 27, ground := Ground.data }, { on := 25, ground := Ground.guard }], guard := some (25, false) }) (v := undef) rfl (by kernel_rfl) (by kernel_rfl) (by kernel_rfl) (fun _ _ _ h => h) (Or.inr ⟨by rfl, rfl⟩) (by assumption) ?_
          try simp only [Act.put, List.setIfInBounds_toArray, List.set_cons_zero, List.set_cons_succ]
          refine wpAnyH_take (i := 29) (oi := { dst := some 46, op := Op.fieldAddr 41 (Operand.tmp 45) 0, type := 0, pos := "ref.go:281", after := #[{ on := 28, ground := Ground.data }, { on := 25, ground := Ground.guard }], guard := some (25, false) }) (v := undef) rfl (by kernel_rfl) (by kernel_rfl) (by kernel_rfl) (fun _ _ _ h => h) (Or.inr ⟨by rfl, rfl⟩) (by assumption) ?_
          try simp only [Act.put, List.setIfInBounds_toArray, List.set_cons_zero, List.set_cons_succ]
          refine wpAnyH_take (i := 30) (oi := { dst := some 47, op := Op.load 2 (Operand.tmp 46), type := 2, pos := "ref.go:281", after := #[{ on := 29, ground := Ground.data }, { on := 25, ground := Ground.guard }], guard := some (25, false) }) (v := undef) rfl (by kernel_rfl) (by kernel_rfl) (by kernel_rfl) (fun _ _ _ h => h) (Or.inr ⟨by rfl, rfl⟩) (by assumption) ?_
          try simp only [Act.put, List.setIfInBounds_toArray, List.set_cons_zero, List.set_cons_succ]
          refine wpAnyH_take (i := 31) (oi := { dst := some 48, op := Op.fieldAddr 38 (Operand.tmp 6) 1, type := 0, pos := "ref.go:281", after := #[{ on := 25, ground := Ground.guard }], guard := some (25, false) }) (v := undef) rfl (by kernel_rfl) (by kernel_rfl) (by kernel_rfl) (fun _ _ _ h => h) (Or.inr ⟨by rfl, rfl⟩) (by assumption) ?_
          try simp only [Act.put, List.setIfInBounds_toArray, List.set_cons_zero, List.set_cons_succ]
          refine wpAnyH_take (i := 32) (oi := { dst := some 49, op := Op.fieldAddr 33 (Operand.tmp 48) 0, type := 0, pos := "ref.go:281", after := #[{ on := 31, ground := Ground.data }, { on := 25, ground := Ground.guard }], guard := some (25, false) }) (v := undef) rfl (by kernel_rfl) (by kernel_rfl) (by kernel_rfl) (fun _ _ _ h => h) (Or.inr ⟨by rfl, rfl⟩) (by assumption) ?_
          try simp only [Act.put, List.setIfInBounds_toArray, List.set_cons_zero, List.set_cons_succ]
          refine wpAnyH_take (i := 33) (oi := { dst := some 50, op := Op.load 2 (Operand.tmp 49), type := 2, pos := "ref.go:281", after := #[{ on := 32, ground := Ground.data }, { on := 25, ground := Ground.guard }], guard := some (25, false) }) (v := undef) rfl (by kernel_rfl) (by kernel_rfl) (by kernel_rfl) (fun _ _ _ h => h) (Or.inr ⟨by rfl, rfl⟩) (by assumption) ?_
          try simp only [Act.put, List.setIfInBounds_toArray, List.set_cons_zero, List.set_cons_succ]
          refine wpAnyH_take (i := 34) (oi := { dst := some 51, op := Op.binOp BinOp.leq 2 (Operand.tmp 47) (Operand.tmp 50) 2, type := 4, pos := "ref.go:281", after := #[{ on := 30, ground := Ground.data }, { on := 33, ground := Ground.data }, { on := 25, ground := Ground.guard }], guard := some (25, false) }) (v := undef) rfl (by kernel_rfl) (by kernel_rfl) (by kernel_rfl) (fun _ _ _ h => h) (Or.inr ⟨by rfl, rfl⟩) (by assumption) ?_
          try simp only [Act.put, List.setIfInBounds_toArray, List.set_cons_zero, List.set_cons_succ]
          refine wpAnyH_take (i := 35) (oi := { dst := some 52, op := Op.pick (Operand.tmp 42) (Operand.const (Value.bool true)) (Operand.tmp 51), type := 4, pos := "ref.go:281", after := #[{ on := 25, ground := Ground.data }, { on := 34, ground := Ground.data }], guard := none }) (v := .bool true) rfl (by kernel_rfl) (by kernel_rfl) (by kernel_rfl) (fun _ _ _ h => h) (Or.inl ⟨by rfl, fun w hSw => ?_⟩) (by assumption) ?_
          · (try dsimp only at hSw)
            go_simp
          try simp only [Act.put, List.setIfInBounds_toArray, List.set_cons_zero, List.set_cons_succ]
          refine wpAnyH_take (i := 36) (oi := { dst := some 53, op := Op.move (Operand.tmp 52), type := 4, pos := "ref.go:281", after := #[{ on := 35, ground := Ground.data }, { on := 25, ground := Ground.chain }], guard := none }) (v := .bool true) rfl (by kernel_rfl) (by kernel_rfl) (by kernel_rfl) (fun _ _ _ h => h) (Or.inl ⟨by rfl, fun w hSw => ?_⟩) (by assumption) ?_
          · (try dsimp only at hSw)
            go_simp
          try simp only [Act.put, List.setIfInBounds_toArray, List.set_cons_zero, List.set_cons_succ]
          refine wpAnyH_take (i := 37) (oi := { dst := some 54, op := Op.move (Operand.tmp 1), type := 22, pos := "ref.go:281", after := #[{ on := 36, ground := Ground.guard }], guard := some (36, false) }) (v := undef) rfl (by kernel_rfl) (by kernel_rfl) (by kernel_rfl) (fun _ _ _ h => h) (Or.inr ⟨by rfl, rfl⟩) (by assumption) ?_
          try simp only [Act.put, List.setIfInBounds_toArray, List.set_cons_zero, List.set_cons_succ]
          refine wpAnyH_take (i := 38) (oi := { dst := some 55, op := Op.move (Operand.tmp 7), type := 3, pos := "ref.go:281", after := #[{ on := 36, ground := Ground.guard }], guard := some (36, false) }) (v := undef) rfl (by kernel_rfl) (by kernel_rfl) (by kernel_rfl) (fun _ _ _ h => h) (Or.inr ⟨by rfl, rfl⟩) (by assumption) ?_
          try simp only [Act.put, List.setIfInBounds_toArray, List.set_cons_zero, List.set_cons_succ]
          refine wpAnyH_take (i := 39) (oi := { dst := some 56, op := Op.indexAddr 22 (Operand.tmp 54) (Operand.tmp 55), type := 0, pos := "ref.go:281", after := #[{ on := 37, ground := Ground.data }, { on := 38, ground := Ground.data }, { on := 36, ground := Ground.guard }], guard := some (36, false) }) (v := undef) rfl (by kernel_rfl) (by kernel_rfl) (by kernel_rfl) (fun _ _ _ h => h) (Or.inr ⟨by rfl, rfl⟩) (by assumption) ?_
          try simp only [Act.put, List.setIfInBounds_toArray, List.set_cons_zero, List.set_cons_succ]
          refine wpAnyH_take (i := 40) (oi := { dst := some 57, op := Op.fieldAddr 41 (Operand.tmp 56) 0, type := 0, pos := "ref.go:281", after := #[{ on := 39, ground := Ground.data }, { on := 36, ground := Ground.guard }], guard := some (36, false) }) (v := undef) rfl (by kernel_rfl) (by kernel_rfl) (by kernel_rfl) (fun _ _ _ h => h) (Or.inr ⟨by rfl, rfl⟩) (by assumption) ?_
          try simp only [Act.put, List.setIfInBounds_toArray, List.set_cons_zero, List.set_cons_succ]
          refine wpAnyH_take (i := 41) (oi := { dst := some 58, op := Op.load 2 (Operand.tmp 57), type := 2, pos := "ref.go:281", after := #[{ on := 40, ground := Ground.data }, { on := 36, ground := Ground.guard }], guard := some (36, false) }) (v := undef) rfl (by kernel_rfl) (by kernel_rfl) (by kernel_rfl) (fun _ _ _ h => h) (Or.inr ⟨by rfl, rfl⟩) (by assumption) ?_
          try simp only [Act.put, List.setIfInBounds_toArray, List.set_cons_zero, List.set_cons_succ]
          refine wpAnyH_take (i := 42) (oi := { dst := some 59, op := Op.load 38 (Operand.tmp 6), type := 38, pos := "ref.go:281", after := #[{ on := 36, ground := Ground.guard }], guard := some (36, false) }) (v := undef) rfl (by kernel_rfl) (by kernel_rfl) (by kernel_rfl) (fun _ _ _ h => h) (Or.inr ⟨by rfl, rfl⟩) (by assumption) ?_
          try simp only [Act.put, List.setIfInBounds_toArray, List.set_cons_zero, List.set_cons_succ]
          refine wpAnyH_take (i := 43) (oi := { dst := some 60, op := Op.call { callee := Callee.value (Operand.func 23), args := #[Operand.tmp 59], argTypes := #[38] }, type := 2, pos := "ref.go:281", after := #[{ on := 42, ground := Ground.data }, { on := 36, ground := Ground.chain }, { on := 36, ground := Ground.guard }], guard := some (36, false) }) (v := undef) rfl (by kernel_rfl) (by kernel_rfl) (by kernel_rfl) (fun _ _ _ h => h) (Or.inr ⟨by rfl, rfl⟩) (by assumption) ?_
          try simp only [Act.put, List.setIfInBounds_toArray, List.set_cons_zero, List.set_cons_succ]
          refine wpAnyH_take (i := 44) (oi := { dst := some 61, op := Op.binOp BinOp.add 2 (Operand.tmp 60) (Operand.const (Value.int IntKind.i64 1)) 2, type := 2, pos := "ref.go:281", after := #[{ on := 43, ground := Ground.data }, { on := 36, ground := Ground.guard }], guard := some (36, false) }) (v := undef) rfl (by kernel_rfl) (by kernel_rfl) (by kernel_rfl) (fun _ _ _ h => h) (Or.inr ⟨by rfl, rfl⟩) (by assumption) ?_
          try simp only [Act.put, List.setIfInBounds_toArray, List.set_cons_zero, List.set_cons_succ]
          refine wpAnyH_take (i := 45) (oi := { dst := some 62, op := Op.binOp BinOp.gtr 2 (Operand.tmp 58) (Operand.tmp 61) 2, type := 4, pos := "ref.go:281", after := #[{ on := 41, ground := Ground.data }, { on := 44, ground := Ground.data }, { on := 36, ground := Ground.guard }], guard := some (36, false) }) (v := undef) rfl (by kernel_rfl) (by kernel_rfl) (by kernel_rfl) (fun _ _ _ h => h) (Or.inr ⟨by rfl, rfl⟩) (by assumption) ?_
          try simp only [Act.put, List.setIfInBounds_toArray, List.set_cons_zero, List.set_cons_succ]
          refine wpAnyH_take (i := 46) (oi := { dst := some 63, op := Op.pick (Operand.tmp 53) (Operand.const (Value.bool true)) (Operand.tmp 62), type := 4, pos := "ref.go:281", after := #[{ on := 36, ground := Ground.data }, { on := 45, ground := Ground.data }], guard := none }) (v := .bool true) rfl (by kernel_rfl) (by kernel_rfl) (by kernel_rfl) (fun _ _ _ h => h) (Or.inl ⟨by rfl, fun w hSw => ?_⟩) (by assumption) ?_
          · (try dsimp only at hSw)
            go_simp
          try simp only [Act.put, List.setIfInBounds_toArray, List.set_cons_zero, List.set_cons_succ]
          refine wpAnyH_done (by kernel_rfl) ?_ _
          refine NoPanic.normal ?_
          have hs5 := HS.out.below (by rw [HZS.out]; exact hSb)
          have hr5 := HRR2.out.below (by rw [HZS.out]; exact hSb)
          have hB5 := HBw.out.trans (hSb.mono (by rw [← HZS.out]; have := HX.out.lt; omega))
          have u0 := hs5.cell (j := 0) rfl
          have u1 := hs5.cell (j := 1) rfl
          have u2 := hs5.cell (j := 2) rfl
          have u3 := hs5.cell (j := 3) rfl
          have u4 := hs5.cell (j := 4) rfl
          have u5 := hs5.cell (j := 5) rfl
          have u6 := hs5.cell (j := 6) rfl
          have d0 := hr5.cell (j := 0) rfl
          have e0 := hr5.frz 0
          have d1 := hr5.cell (j := 1) rfl
          have e1 := hr5.frz 1
          have d2 := hr5.cell (j := 2) rfl
          have e2 := hr5.frz 2
          have d3 := hr5.cell (j := 3) rfl
          have e3 := hr5.frz 3
          have d4 := hr5.cell (j := 4) rfl
          have e4 := hr5.frz 4
          have d5 := hr5.cell (j := 5) rfl
          have e5 := hr5.frz 5
          have d6 := hr5.cell (j := 6) rfl
          have e6 := hr5.frz 6
          have hy9 := (((((((hr5.set 0 (.int .i64 ht)).set 1 (.int .i64 hv)).set 2 (.int .i64 ix)).set 3 (.int .i64 st)).set 4 (.string cf)).set 5 (.string dt)).set 6 (.slice A n c))
          have hB9 := (((((((hB5.setCell (p := ⟨(b + 1), 0, none⟩) (Nat.le_add_right b 1) (.int .i64 ht)).setCell (p := ⟨(b + 1), 1, none⟩) (Nat.le_add_right b 1) (.int .i64 hv)).setCell (p := ⟨(b + 1), 2, none⟩) (Nat.le_add_right b 1) (.int .i64 ix)).setCell (p := ⟨(b + 1), 3, none⟩) (Nat.le_add_right b 1) (.int .i64 st)).setCell (p := ⟨(b + 1), 4, none⟩) (Nat.le_add_right b 1) (.string cf)).setCell (p := ⟨(b + 1), 5, none⟩) (Nat.le_add_right b 1) (.string dt)).setCell (p := ⟨(b + 1), 6, none⟩) (Nat.le_add_right b 1) (.slice A n c))
          obtain ⟨k9, hk9⟩ : ∃ k9, (((((((wb.setCell ⟨(b + 1), 0, none⟩ (.int .i64 ht)).setCell ⟨(b + 1), 1, none⟩ (.int .i64 hv)).setCell ⟨(b + 1), 2, none⟩ (.int .i64 ix)).setCell ⟨(b + 1), 3, none⟩ (.int .i64 st)).setCell ⟨(b + 1), 4, none⟩ (.string cf)).setCell ⟨(b + 1), 5, none⟩ (.string dt)).setCell ⟨(b + 1), 6, none⟩ (.slice A n c)) = k9 := ⟨_, rfl⟩
          rw [hk9] at hy9 hB9
          simp only [List.set_cons_zero, List.set_cons_succ] at hy9
          have HY9 := Lib.hid hy9
          have HB9 := Lib.hid hB9
          clear hy9 hB9
          go_wp2
          have hy9 := HY9.out
          have g0 := hy9.cell (j := 0) rfl
          have g1 := hy9.cell (j := 1) rfl
          have g2 := hy9.cell (j := 2) rfl
          have g3 := hy9.cell (j := 3) rfl
          have g4 := hy9.cell (j := 4) rfl
          have g5 := hy9.cell (j := 5) rfl
          have g6 := hy9.cell (j := 6) rfl
          have hwr : r = (1, k) := by rw [← HR.out]; exact write_may (by rw [← HML.out]; exact hlt) (by rw [HEJ.out]; exact HBM.out)
          refine bodyPost_ret (v := .tuple #[.agg #[.int .i64 ht, .int .i64 hv, .int .i64 ix, .int .i64 st, .string cf, .string dt, .slice A n c], .int .i64 1]) (by simp [results, Tryd.results9, go_sem, g0, g1, g2, g3, g4, g5, g6]) rfl ⟨.slice A n c, ?_, ?_, HB9.out⟩
          · rw [hwr, ← HK.out]
          · exact by rw [hwr]; show Ens _ k9 (.slice A n c) k.log; rw [← HK.out]; exact ((HE.out.below (by rw [HBb.out]; exact HB9.out)).mono (fun j hj _ => .inl hj))
        | true =>
          by_cases hlo : ex ≤ ix
          · go_wp2_with fail
            have hS0 : Below zs wr wr.drew := (Below.refl _ _).drew
            refine wp_region_noPanic ?_
            refine wp_region_held_drew (S := fun W => Below zs wr W) (by kernel_rfl) ?_ (fun hHeld => ?_)
            · exact hS0
            generalize wr.drew = wa at *
            refine wpAnyH_take (i := 0) (oi := { dst := some 17, op := Op.move (Operand.tmp 1), type := 22, pos := "ref.go:281", after := #[], guard := none }) (v := .slice (some ⟨g, o, none⟩) m c2) rfl (by kernel_rfl) (by kernel_rfl) (by kernel_rfl) (fun _ _ _ h => h) (Or.inl ⟨by rfl, fun w hSw => ?_⟩) (by assumption) ?_
            · (try dsimp only at hSw)
              go_simp
            try simp only [Act.put, List.setIfInBounds_toArray, List.set_cons_zero, List.set_cons_succ]
            refine wpAnyH_take (i := 1) (oi := { dst := some 18, op := Op.move (Operand.tmp 7), type := 3, pos := "ref.go:281", after := #[], guard := none }) (v := .int .i64 0) rfl (by kernel_rfl) (by kernel_rfl) (by kernel_rfl) (fun _ _ _ h => h) (Or.inl ⟨by rfl, fun w hSw => ?_⟩) (by assumption) ?_
            · (try dsimp only at hSw)
              go_simp
            try simp only [Act.put, List.setIfInBounds_toArray, List.set_cons_zero, List.set_cons_succ]
            refine wpAnyH_take (i := 2) (oi := { dst := some 19, op := Op.indexAddr 22 (Operand.tmp 17) (Operand.tmp 18), type := 0, pos := "ref.go:281", after := #[{ on := 0, ground := Ground.data }, { on := 1, ground := Ground.data }], guard := none }) (v := .pointer (some ⟨g, o, none⟩)) rfl (by kernel_rfl) (by kernel_rfl) (by kernel_rfl) (fun _ _ _ h => h) (Or.inl ⟨by rfl, fun w hSw => ?_⟩) (by assumption) ?_
            · (try dsimp only at hSw)
              go_simp
            try simp only [Act.put, List.setIfInBounds_toArray, List.set_cons_zero, List.set_cons_succ]
            refine wpAnyH_take (i := 3) (oi := { dst := some 20, op := Op.load 41 (Operand.tmp 19), type := 41, pos := "ref.go:281", after := #[{ on := 2, ground := Ground.data }], guard := none }) (v := .agg #[.int .i64 ex, .int .i64 et, .int .i64 kd, .string ed]) rfl (by kernel_rfl) (by kernel_rfl) (by kernel_rfl) (fun _ _ _ h => h) (Or.inl ⟨by rfl, fun w hSw => ?_⟩) (by assumption) ?_
            · (try dsimp only at hSw)
              have q0 := (hSw.cell (p := ⟨g, o, none⟩) hgz).trans c0
              have q1 := (hSw.cell (p := ⟨g, o + 1, none⟩) hgz).trans c1
              have q2 := (hSw.cell (p := ⟨g, o + 2, none⟩) hgz).trans c2'
              have q3 := (hSw.cell (p := ⟨g, o + 3, none⟩) hgz).trans c3
              go_simp
            try simp only [Act.put, List.setIfInBounds_toArray, List.set_cons_zero, List.set_cons_succ]
            refine wpAnyH_ready (rs := [4]) (by kernel_rfl) (by simp) ?_
            refine AllReadyH.cons (o := { dst := some 21, op := Op.call { callee := Callee.value (Operand.func 22), args := #[Operand.tmp 20], argTypes := #[41] }, type := 4, pos := "ref.go:281", after := #[{ on := 3, ground := Ground.data }], guard := none }) rfl (fun K hK => ?_) AllReadyH.nil
            go_simp
            go_at_call 22
            refine (HMAY.out _).mono ?_
            rintro e wb ⟨rfl, h⟩
            have hSb : Below zs wr wb := hHeld.trans (h.mono (by rw [← HZS.out]; exact hHeld.size))
            clear h
            refine hK.out _ _ ?_ (fun hHeld => ?_)
            · exact hSb
            clear hK K
            try simp only [Act.put, List.setIfInBounds_toArray, List.set_cons_zero, List.set_cons_succ]
            refine wpAnyH_take (i := 5) (oi := { dst := some 22, op := Op.unOp UnOp.not 4 (Operand.tmp 21), type := 4, pos := "ref.go:281", after := #[{ on := 4, ground := Ground.data }], guard := none }) (v := .bool false) rfl (by kernel_rfl) (by kernel_rfl) (by kernel_rfl) (fun _ _ _ h => h) (Or.inl ⟨by rfl, fun w hSw => ?_⟩) (by assumption) ?_
            · (try dsimp only at hSw)
              go_simp
            try simp only [Act.put, List.setIfInBounds_toArray, List.set_cons_zero, List.set_cons_succ]
            refine wpAnyH_take (i := 6) (oi := { dst := some 23, op := Op.move (Operand.tmp 22), type := 4, pos := "ref.go:281", after := #[{ on := 5, ground := Ground.data }, { on := 4, ground := Ground.chain }], guard := none }) (v := .bool false) rfl (by kernel_rfl) (by kernel_rfl) (by kernel_rfl) (fun _ _ _ h => h) (Or.inl ⟨by rfl, fun w hSw => ?_⟩) (by assumption) ?_
            · (try dsimp only at hSw)
              go_simp
            try simp only [Act.put, List.setIfInBounds_toArray, List.set_cons_zero, List.set_cons_succ]
            refine wpAnyH_take (i := 7) (oi := { dst := some 24, op := Op.move (Operand.tmp 7), type := 3, pos := "ref.go:281", after := #[{ on := 6, ground := Ground.guard }], guard := some (6, false) }) (v := .int .i64 0) rfl (by kernel_rfl) (by kernel_rfl) (by kernel_rfl) (fun _ _ _ h => h) (Or.inl ⟨by rfl, fun w hSw => ?_⟩) (by assumption) ?_
            · (try dsimp only at hSw)
              go_simp
            try simp only [Act.put, List.setIfInBounds_toArray, List.set_cons_zero, List.set_cons_succ]
            refine wpAnyH_take (i := 8) (oi := { dst := some 25, op := Op.binOp BinOp.gtr 3 (Operand.tmp 24) (Operand.const (Value.int IntKind.i64 0)) 3, type := 4, pos := "ref.go:281", after := #[{ on := 7, ground := Ground.data }, { on := 6, ground := Ground.guard }], guard := some (6, false) }) (v := .bool false) rfl (by kernel_rfl) (by kernel_rfl) (by kernel_rfl) (fun _ _ _ h => h) (Or.inl ⟨by rfl, fun w hSw => ?_⟩) (by assumption) ?_
            · (try dsimp only at hSw)
              go_simp
            try simp only [Act.put, List.setIfInBounds_toArray, List.set_cons_zero, List.set_cons_succ]
            refine wpAnyH_take (i := 9) (oi := { dst := some 26, op := Op.move (Operand.tmp 25), type := 4, pos := "ref.go:281", after := #[{ on := 8, ground := Ground.data }, { on := 6, ground := Ground.chain }, { on := 6, ground := Ground.guard }], guard := some (6, false) }) (v := .bool false) rfl (by kernel_rfl) (by kernel_rfl) (by kernel_rfl) (fun _ _ _ h => h) (Or.inl ⟨by rfl, fun w hSw => ?_⟩) (by assumption) ?_
            · (try dsimp only at hSw)
              go_simp
            try simp only [Act.put, List.setIfInBounds_toArray, List.set_cons_zero, List.set_cons_succ]
            refine wpAnyH_take (i := 10) (oi := { dst := some 27, op := Op.move (Operand.tmp 1), type := 22, pos := "ref.go:281", after := #[{ on := 9, ground := Ground.guard }], guard := some (9, true) }) (v := undef) rfl (by kernel_rfl) (by kernel_rfl) (by kernel_rfl) (fun _ _ _ h => h) (Or.inr ⟨by rfl, rfl⟩) (by assumption) ?_
            try simp only [Act.put, List.setIfInBounds_toArray, List.set_cons_zero, List.set_cons_succ]
            refine wpAnyH_take (i := 11) (oi := { dst := some 28, op := Op.move (Operand.tmp 7), type := 3, pos := "ref.go:281", after := #[{ on := 9, ground := Ground.guard }], guard := some (9, true) }) (v := undef) rfl (by kernel_rfl) (by kernel_rfl) (by kernel_rfl) (fun _ _ _ h => h) (Or.inr ⟨by rfl, rfl⟩) (by assumption) ?_
            try simp only [Act.put, List.setIfInBounds_toArray, List.set_cons_zero, List.set_cons_succ]
            refine wpAnyH_take (i := 12) (oi := { dst := some 29, op := Op.indexAddr 22 (Operand.tmp 27) (Operand.tmp 28), type := 0, pos := "ref.go:281", after := #[{ on := 10, ground := Ground.data }, { on := 11, ground := Ground.data }, { on := 9, ground := Ground.guard }], guard := some (9, true) }) (v := undef) rfl (by kernel_rfl) (by kernel_rfl) (by kernel_rfl) (fun _ _ _ h => h) (Or.inr ⟨by rfl, rfl⟩) (by assumption) ?_
            try simp only [Act.put, List.setIfInBounds_toArray, List.set_cons_zero, List.set_cons_succ]
            refine wpAnyH_take (i := 13) (oi := { dst := some 30, op := Op.fieldAddr 41 (Operand.tmp 29) 0, type := 0, pos := "ref.go:281", after := #[{ on := 12, ground := Ground.data }, { on := 9, ground := Ground.guard }], guard := some (9, true) }) (v := undef) rfl (by kernel_rfl) (by kernel_rfl) (by kernel_rfl) (fun _ _ _ h => h) (Or.inr ⟨by rfl, rfl⟩) (by assumption) ?_
            try simp only [Act.put, List.setIfInBounds_toArray, List.set_cons_zero, List.set_cons_succ]
            refine wpAnyH_take (i := 14) (oi := { dst := some 31, op := Op.load 2 (Operand.tmp 30), type := 2, pos := "ref.go:281", after := #[{ on := 13, ground := Ground.data }, { on := 9, ground := Ground.guard }], guard := some (9, true) }) (v := undef) rfl (by kernel_rfl) (by kernel_rfl) (by kernel_rfl) (fun _ _ _ h => h) (Or.inr ⟨by rfl, rfl⟩) (by assumption) ?_
            try simp only [Act.put, List.setIfInBounds_toArray, List.set_cons_zero, List.set_cons_succ]
            refine wpAnyH_take (i := 15) (oi := { dst := some 32, op := Op.move (Operand.tmp 1), type := 22, pos := "ref.go:281", after := #[{ on := 9, ground := Ground.guard }], guard := some (9, true) }) (v := undef) rfl (by kernel_rfl) (by kernel_rfl) (by kernel_rfl) (fun _ _ _ h => h) (Or.inr ⟨by rfl, rfl⟩) (by assumption) ?_
            try simp only [Act.put, List.setIfInBounds_toArray, List.set_cons_zero, List.set_cons_succ]
            refine wpAnyH_take (i := 16) (oi := { dst := some 33, op := Op.move (Operand.tmp 7), type := 3, pos := "ref.go:281", after := #[{ on := 9, ground := Ground.guard }], guard := some (9, true) }) (v := undef) rfl (by kernel_rfl) (by kernel_rfl) (by kernel_rfl) (fun _ _ _ h => h) (Or.inr ⟨by rfl, rfl⟩) (by assumption) ?_
            try simp only [Act.put, List.setIfInBounds_toArray, List.set_cons_zero, List.set_cons_succ]
            refine wpAnyH_take (i := 17) (oi := { dst := some 34, op := Op.binOp BinOp.sub 3 (Operand.tmp 33) (Operand.const (Value.int IntKind.i64 1)) 3, type := 3, pos := "ref.go:281", after := #[{ on := 16, ground := Ground.data }, { on := 9, ground := Ground.guard }], guard := some (9, true) }) (v := undef) rfl (by kernel_rfl) (by kernel_rfl) (by kernel_rfl) (fun _ _ _ h => h) (Or.inr ⟨by rfl, rfl⟩) (by assumption) ?_
            try simp only [Act.put, List.setIfInBounds_toArray, List.set_cons_zero, List.set_cons_succ]
            refine wpAnyH_take (i := 18) (oi := { dst := some 35, op := Op.indexAddr 22 (Operand.tmp 32) (Operand.tmp 34), type := 0, pos := "ref.go:281", after := #[{ on := 15, ground := Ground.data }, { on := 17, ground := Ground.data }, { on := 9, ground := Ground.guard }], guard := some (9, true) }) (v := undef) rfl (by kernel_rfl) (by kernel_rfl) (by kernel_rfl) (fun _ _ _ h => h) (Or.inr ⟨by rfl, rfl⟩) (by assumption) ?_
            try simp only [Act.put, List.setIfInBounds_toArray, List.set_cons_zero, List.set_cons_succ]
            refine wpAnyH_take (i := 19) (oi := { dst := some 36, op := Op.fieldAddr 41 (Operand.tmp 35) 0, type := 0, pos := "ref.go:281", after := #[{ on := 18, ground := Ground.data }, { on := 9, ground := Ground.guard }], guard := some (9, true) }) (v := undef) rfl (by kernel_rfl) (by kernel_rfl) (by kernel_rfl) (fun _ _ _ h => h) (Or.inr ⟨by rfl, rfl⟩) (by assumption) ?_
            try simp only [Act.put, List.setIfInBounds_toArray, List.set_cons_zero, List.set_cons_succ]
            refine wpAnyH_take (i := 20) (oi := { dst := some 37, op := Op.load 2 (Operand.tmp 36), type := 2, pos := "ref.go:281", after := #[{ on := 19, ground := Ground.data }, { on := 9, ground := Ground.guard }], guard := some (9, true) }) (v := undef) rfl (by kernel_rfl) (by kernel_rfl) (by kernel_rfl) (fun _ _ _ h => h) (Or.inr ⟨by rfl, rfl⟩) (by assumption) ?_
            try simp only [Act.put, List.setIfInBounds_toArray, List.set_cons_zero, List.set_cons_succ]
            refine wpAnyH_take (i := 21) (oi := { dst := some 38, op := Op.binOp BinOp.add 2 (Operand.tmp 37) (Operand.const (Value.int IntKind.i64 1)) 2, type := 2, pos := "ref.go:281", after := #[{ on := 20, ground := Ground.data }, { on := 9, ground := Ground.guard }], guard := some (9, true) }) (v := undef) rfl (by kernel_rfl) (by kernel_rfl) (by kernel_rfl) (fun _ _ _ h => h) (Or.inr ⟨by rfl, rfl⟩) (by assumption) ?_
            try simp only [Act.put, List.setIfInBounds_toArray, List.set_cons_zero, List.set_cons_succ]
            refine wpAnyH_take (i := 22) (oi := { dst := some 39, op := Op.binOp BinOp.neq 2 (Operand.tmp 31) (Operand.tmp 38) 2, type := 4, pos := "ref.go:281", after := #[{ on := 14, ground := Ground.data }, { on := 21, ground := Ground.data }, { on := 9, ground := Ground.guard }], guard := some (9, true) }) (v := undef) rfl (by kernel_rfl) (by kernel_rfl) (by kernel_rfl) (fun _ _ _ h => h) (Or.inr ⟨by rfl, rfl⟩) (by assumption) ?_
            try simp only [Act.put, List.setIfInBounds_toArray, List.set_cons_zero, List.set_cons_succ]
            refine wpAnyH_take (i := 23) (oi := { dst := some 40, op := Op.pick (Operand.tmp 26) (Operand.tmp 39) (Operand.const (Value.bool false)), type := 4, pos := "ref.go:281", after := #[{ on := 9, ground := Ground.data }, { on := 22, ground := Ground.data }, { on := 6, ground := Ground.guard }], guard := some (6, false) }) (v := .bool false) rfl (by kernel_rfl) (by kernel_rfl) (by kernel_rfl) (fun _ _ _ h => h) (Or.inl ⟨by rfl, fun w hSw => ?_⟩) (by assumption) ?_
            · (try dsimp only at hSw)
              go_simp
            try simp only [Act.put, List.setIfInBounds_toArray, List.set_cons_zero, List.set_cons_succ]
            refine wpAnyH_take (i := 24) (oi := { dst := some 41, op := Op.pick (Operand.tmp 23) (Operand.const (Value.bool true)) (Operand.tmp 40), type := 4, pos := "ref.go:281", after := #[{ on := 6, ground := Ground.data }, { on := 23, ground := Ground.data }], guard := none }) (v := .bool false) rfl (by kernel_rfl) (by kernel_rfl) (by kernel_rfl) (fun _ _ _ h => h) (Or.inl ⟨by rfl, fun w hSw => ?_⟩) (by assumption) ?_
            · (try dsimp only at hSw)
              go_simp
            try simp only [Act.put, List.setIfInBounds_toArray, List.set_cons_zero, List.set_cons_succ]
            refine wpAnyH_take (i := 25) (oi := { dst := some 42, op := Op.move (Operand.tmp 41), type := 4, pos := "ref.go:281", after := #[{ on := 24, ground := Ground.data }, { on := 9, ground := Ground.chain }], guard := none }) (v := .bool false) rfl (by kernel_rfl) (by kernel_rfl) (by kernel_rfl) (fun _ _ _ h => h) (Or.inl ⟨by rfl, fun w hSw => ?_⟩) (by assumption) ?_
            · (try dsimp only at hSw)
              go_simp
            try simp only [Act.put, List.setIfInBounds_toArray, List.set_cons_zero, List.set_cons_succ]
            refine wpAnyH_take (i := 26) (oi := { dst := some 43, op := Op.move (Operand.tmp 1), type := 22, pos := "ref.go:281", after := #[{ on := 25, ground := Ground.guard }], guard := some (25, false) }) (v := .slice (some ⟨g, o, none⟩) m c2) rfl (by kernel_rfl) (by kernel_rfl) (by kernel_rfl) (fun _ _ _ h => h) (Or.inl ⟨by rfl, fun w hSw => ?_⟩) (by assumption) ?_
            · (try dsimp only at hSw)
              go_simp
            try simp only [Act.put, List.setIfInBounds_toArray, List.set_cons_zero, List.set_cons_succ]
            refine wpAnyH_take (i := 27) (oi := { dst := some 44, op := Op.move (Operand.tmp 7), type := 3, pos := "ref.go:281", after := #[{ on := 25, ground := Ground.guard }], guard := some (25, false) }) (v := .int .i64 0) rfl (by kernel_rfl) (by kernel_rfl) (by kernel_rfl) (fun _ _ _ h => h) (Or.inl ⟨by rfl, fun w hSw => ?_⟩) (by assumption) ?_
            · (try dsimp only at hSw)
              go_simp
            try simp only [Act.put, List.setIfInBounds_toArray, List.set_cons_zero, List.set_cons_succ]
            refine wpAnyH_take (i := 28) (oi := { dst := some 45, op := Op.indexAddr 22 (Operand.tmp 43) (Operand.tmp 44), type := 0, pos := "ref.go:281", after := #[{ on := 26, ground := Ground.data }, { on := 27, ground := Ground.data }, { on := 25, ground := Ground.guard }], guard := some (25, false) }) (v := .pointer (some ⟨g, o, none⟩)) rfl (by kernel_rfl) (by kernel_rfl) (by kernel_rfl) (fun _ _ _ h => h) (Or.inl ⟨by rfl, fun w hSw => ?_⟩) (by assumption) ?_
            · (try dsimp only at hSw)
              go_simp
            try simp only [Act.put, List.setIfInBounds_toArray, List.set_cons_zero, List.set_cons_succ]
            refine wpAnyH_take (i := 29) (oi := { dst := some 46, op := Op.fieldAddr 41 (Operand.tmp 45) 0, type := 0, pos := "ref.go:281", after := #[{ on := 28, ground := Ground.data }, { on := 25, ground := Ground.guard }], guard := some (25, false) }) (v := .pointer (some ⟨g, o, none⟩)) rfl (by kernel_rfl) (by kernel_rfl) (by kernel_rfl) (fun _ _ _ h => h) (Or.inl ⟨by rfl, fun w hSw => ?_⟩) (by assumption) ?_
            · (try dsimp only at hSw)
              go_simp
            try simp only [Act.put, List.setIfInBounds_toArray, List.set_cons_zero, List.set_cons_succ]
            refine wpAnyH_take (i := 30) (oi := { dst := some 47, op := Op.load 2 (Operand.tmp 46), type := 2, pos := "ref.go:281", after := #[{ on := 29, ground := Ground.data }, { on := 25, ground := Ground.guard }], guard := some (25, false) }) (v := .int .i64 ex) rfl (by kernel_rfl) (by kernel_rfl) (by kernel_rfl) (fun _ _ _ h => h) (Or.inl ⟨by rfl, fun w hSw => ?_⟩) (by assumption) ?_
            · (try dsimp only at hSw)
              have q0 := (hSw.cell (p := ⟨g, o, none⟩) hgz).trans c0
              go_simp
            try simp only [Act.put, List.setIfInBounds_toArray, List.set_cons_zero, List.set_cons_succ]
            refine wpAnyH_take (i := 31) (oi := { dst := some 48, op := Op.fieldAddr 38 (Operand.tmp 6) 1, type := 0, pos := "ref.go:281", after := #[{ on := 25, ground := Ground.guard }], guard := some (25, false) }) (v := .pointer (some ⟨b + 2, 2, none⟩)) rfl (by kernel_rfl) (by kernel_rfl) (by kernel_rfl) (fun _ _ _ h => h) (Or.inl ⟨by rfl, fun w hSw => ?_⟩) (by assumption) ?_
            · (try dsimp only at hSw)
              go_simp
            try simp only [Act.put, List.setIfInBounds_toArray, List.set_cons_zero, List.set_cons_succ]
            refine wpAnyH_take (i := 32) (oi := { dst := some 49, op := Op.fieldAddr 33 (Operand.tmp 48) 0, type := 0, pos := "ref.go:281", after := #[{ on := 31, ground := Ground.data }, { on := 25, ground := Ground.guard }], guard := some (25, false) }) (v := .pointer (some ⟨b + 2, 2, none⟩)) rfl (by kernel_rfl) (by kernel_rfl) (by kernel_rfl) (fun _ _ _ h => h) (Or.inl ⟨by rfl, fun w hSw => ?_⟩) (by assumption) ?_
            · (try dsimp only at hSw)
              go_simp
            try simp only [Act.put, List.setIfInBounds_toArray, List.set_cons_zero, List.set_cons_succ]
            refine wpAnyH_take (i := 33) (oi := { dst := some 50, op := Op.load 2 (Operand.tmp 49), type := 2, pos := "ref.go:281", after := #[{ on := 32, ground := Ground.data }, { on := 25, ground := Ground.guard }], guard := some (25, false) }) (v := .int .i64 ix) rfl (by kernel_rfl) (by kernel_rfl) (by kernel_rfl) (fun _ _ _ h => h) (Or.inl ⟨by rfl, fun w hSw => ?_⟩) (by assumption) ?_
            · (try dsimp only at hSw)
              have q0 := (hSw.cell (p := ⟨b + 2, 2, none⟩) hxz).trans x3
              go_simp
            try simp only [Act.put, List.setIfInBounds_toArray, List.set_cons_zero, List.set_cons_succ]
            refine wpAnyH_take (i := 34) (oi := { dst := some 51, op := Op.binOp BinOp.leq 2 (Operand.tmp 47) (Operand.tmp 50) 2, type := 4, pos := "ref.go:281", after := #[{ on := 30, ground := Ground.data }, { on := 33, ground := Ground.data }, { on := 25, ground := Ground.guard }], guard := some (25, false) }) (v := .bool true) rfl (by kernel_rfl) (by kernel_rfl) (by kernel_rfl) (fun _ _ _ h => h) (Or.inl ⟨by rfl, fun w hSw => ?_⟩) (by assumption) ?_
            · (try dsimp only at hSw)
              go_simp
            try simp only [Act.put, List.setIfInBounds_toArray, List.set_cons_zero, List.set_cons_succ]
            refine wpAnyH_take (i := 35) (oi := { dst := some 52, op := Op.pick (Operand.tmp 42) (Operand.const (Value.bool true)) (Operand.tmp 51), type := 4, pos := "ref.go:281", after := #[{ on := 25, ground := Ground.data }, { on := 34, ground := Ground.data }], guard := none }) (v := .bool true) rfl (by kernel_rfl) (by kernel_rfl) (by kernel_rfl) (fun _ _ _ h => h) (Or.inl ⟨by rfl, fun w hSw => ?_⟩) (by assumption) ?_
            · (try dsimp only at hSw)
              go_simp
            try simp only [Act.put, List.setIfInBounds_toArray, List.set_cons_zero, List.set_cons_succ]
            refine wpAnyH_take (i := 36) (oi := { dst := some 53, op := Op.move (Operand.tmp 52), type := 4, pos := "ref.go:281", after := #[{ on := 35, ground := Ground.data }, { on := 25, ground := Ground.chain }], guard := none }) (v := .bool true) rfl (by kernel_rfl) (by kernel_rfl) (by kernel_rfl) (fun _ _ _ h => h) (Or.inl ⟨by rfl, fun w hSw => ?_⟩) (by assumption) ?_
            · (try dsimp only at hSw)
              go_simp
            try simp only [Act.put, List.setIfInBounds_toArray, List.set_cons_zero, List.set_cons_succ]
            refine wpAnyH_take (i := 37) (oi := { dst := some 54, op := Op.move (Operand.tmp 1), type := 22, pos := "ref.go:281", after := #[{ on := 36, ground := Ground.guard }], guard := some (36, false) }) (v := undef) rfl (by kernel_rfl) (by kernel_rfl) (by kernel_rfl) (fun _ _ _ h => h) (Or.inr ⟨by rfl, rfl⟩) (by assumption) ?_
            try simp only [Act.put, List.setIfInBounds_toArray, List.set_cons_zero, List.set_cons_succ]
            refine wpAnyH_take (i := 38) (oi := { dst := some 55, op := Op.move (Operand.tmp 7), type := 3, pos := "ref.go:281", after := #[{ on := 36, ground := Ground.guard }], guard := some (36, false) }) (v := undef) rfl (by kernel_rfl) (by kernel_rfl) (by kernel_rfl) (fun _ _ _ h => h) (Or.inr ⟨by rfl, rfl⟩) (by assumption) ?_
            try simp only [Act.put, List.setIfInBounds_toArray, List.set_cons_zero, List.set_cons_succ]
            refine wpAnyH_take (i := 39) (oi := { dst := some 56, op := Op.indexAddr 22 (Operand.tmp 54) (Operand.tmp 55), type := 0, pos := "ref.go:281", after := #[{ on := 37, ground := Ground.data }, { on := 38, ground := Ground.data }, { on := 36, ground := Ground.guard }], guard := some (36, false) }) (v := undef) rfl (by kernel_rfl) (by kernel_rfl) (by kernel_rfl) (fun _ _ _ h => h) (Or.inr ⟨by rfl, rfl⟩) (by assumption) ?_
            try simp only [Act.put, List.setIfInBounds_toArray, List.set_cons_zero, List.set_cons_succ]
            refine wpAnyH_take (i := 40) (oi := { dst := some 57, op := Op.fieldAddr 41 (Operand.tmp 56) 0, type := 0, pos := "ref.go:281", after := #[{ on := 39, ground := Ground.data }, { on := 36, ground := Ground.guard }], guard := some (36, false) }) (v := undef) rfl (by kernel_rfl) (by kernel_rfl) (by kernel_rfl) (fun _ _ _ h => h) (Or.inr ⟨by rfl, rfl⟩) (by assumption) ?_
            try simp only [Act.put, List.setIfInBounds_toArray, List.set_cons_zero, List.set_cons_succ]
            refine wpAnyH_take (i := 41) (oi := { dst := some 58, op := Op.load 2 (Operand.tmp 57), type := 2, pos := "ref.go:281", after := #[{ on := 40, ground := Ground.data }, { on := 36, ground := Ground.guard }], guard := some (36, false) }) (v := undef) rfl (by kernel_rfl) (by kernel_rfl) (by kernel_rfl) (fun _ _ _ h => h) (Or.inr ⟨by rfl, rfl⟩) (by assumption) ?_
            try simp only [Act.put, List.setIfInBounds_toArray, List.set_cons_zero, List.set_cons_succ]
            refine wpAnyH_take (i := 42) (oi := { dst := some 59, op := Op.load 38 (Operand.tmp 6), type := 38, pos := "ref.go:281", after := #[{ on := 36, ground := Ground.guard }], guard := some (36, false) }) (v := undef) rfl (by kernel_rfl) (by kernel_rfl) (by kernel_rfl) (fun _ _ _ h => h) (Or.inr ⟨by rfl, rfl⟩) (by assumption) ?_
            try simp only [Act.put, List.setIfInBounds_toArray, List.set_cons_zero, List.set_cons_succ]
            refine wpAnyH_take (i := 43) (oi := { dst := some 60, op := Op.call { callee := Callee.value (Operand.func 23), args := #[Operand.tmp 59], argTypes := #[38] }, type := 2, pos := "ref.go:281", after := #[{ on := 42, ground := Ground.data }, { on := 36, ground := Ground.chain }, { on := 36, ground := Ground.guard }], guard := some (36, false) }) (v := undef) rfl (by kernel_rfl) (by kernel_rfl) (by kernel_rfl) (fun _ _ _ h => h) (Or.inr ⟨by rfl, rfl⟩) (by assumption) ?_
            try simp only [Act.put, List.setIfInBounds_toArray, List.set_cons_zero, List.set_cons_succ]
            refine wpAnyH_take (i := 44) (oi := { dst := some 61, op := Op.binOp BinOp.add 2 (Operand.tmp 60) (Operand.const (Value.int IntKind.i64 1)) 2, type := 2, pos := "ref.go:281", after := #[{ on := 43, ground := Ground.data }, { on := 36, ground := Ground.guard }], guard := some (36, false) }) (v := undef) rfl (by kernel_rfl) (by kernel_rfl) (by kernel_rfl) (fun _ _ _ h => h) (Or.inr ⟨by rfl, rfl⟩) (by assumption) ?_
            try simp only [Act.put, List.setIfInBounds_toArray, List.set_cons_zero, List.set_cons_succ]
            refine wpAnyH_take (i := 45) (oi := { dst := some 62, op := Op.binOp BinOp.gtr 2 (Operand.tmp 58) (Operand.tmp 61) 2, type := 4, pos := "ref.go:281", after := #[{ on := 41, ground := Ground.data }, { on := 44, ground := Ground.data }, { on := 36, ground := Ground.guard }], guard := some (36, false) }) (v := undef) rfl (by kernel_rfl) (by kernel_rfl) (by kernel_rfl) (fun _ _ _ h => h) (Or.inr ⟨by rfl, rfl⟩) (by assumption) ?_
            try simp only [Act.put, List.setIfInBounds_toArray, List.set_cons_zero, List.set_cons_succ]
            refine wpAnyH_take (i := 46) (oi := { dst := some 63, op := Op.pick (Operand.tmp 53) (Operand.const (Value.bool true)) (Operand.tmp 62), type := 4, pos := "ref.go:281", after := #[{ on := 36, ground := Ground.data }, { on := 45, ground := Ground.data }], guard := none }) (v := .bool true) rfl (by kernel_rfl) (by kernel_rfl) (by kernel_rfl) (fun _ _ _ h => h) (Or.inl ⟨by rfl, fun w hSw => ?_⟩) (by assumption) ?_
            · (try dsimp only at hSw)
              go_simp
            try simp only [Act.put, List.setIfInBounds_toArray, List.set_cons_zero, List.set_cons_succ]
            refine wpAnyH_done (by kernel_rfl) ?_ _
            refine NoPanic.normal ?_
            have hs5 := HS.out.below (by rw [HZS.out]; exact hSb)
            have hr5 := HRR2.out.below (by rw [HZS.out]; exact hSb)
            have hB5 := HBw.out.trans (hSb.mono (by rw [← HZS.out]; have := HX.out.lt; omega))
            have u0 := hs5.cell (j := 0) rfl
            have u1 := hs5.cell (j := 1) rfl
            have u2 := hs5.cell (j := 2) rfl
            have u3 := hs5.cell (j := 3) rfl
            have u4 := hs5.cell (j := 4) rfl
            have u5 := hs5.cell (j := 5) rfl
            have u6 := hs5.cell (j := 6) rfl
            have d0 := hr5.cell (j := 0) rfl
            have e0 := hr5.frz 0
            have d1 := hr5.cell (j := 1) rfl
            have e1 := hr5.frz 1
            have d2 := hr5.cell (j := 2) rfl
            have e2 := hr5.frz 2
            have d3 := hr5.cell (j := 3) rfl
            have e3 := hr5.frz 3
            have d4 := hr5.cell (j := 4) rfl
            have e4 := hr5.frz 4
            have d5 := hr5.cell (j := 5) rfl
            have e5 := hr5.frz 5
            have d6 := hr5.cell (j := 6) rfl
            have e6 := hr5.frz 6
            have hy9 := (((((((hr5.set 0 (.int .i64 ht)).set 1 (.int .i64 hv)).set 2 (.int .i64 ix)).set 3 (.int .i64 st)).set 4 (.string cf)).set 5 (.string dt)).set 6 (.slice A n c))
            have hB9 := (((((((hB5.setCell (p := ⟨(b + 1), 0, none⟩) (Nat.le_add_right b 1) (.int .i64 ht)).setCell (p := ⟨(b + 1), 1, none⟩) (Nat.le_add_right b 1) (.int .i64 hv)).setCell (p := ⟨(b + 1), 2, none⟩) (Nat.le_add_right b 1) (.int .i64 ix)).setCell (p := ⟨(b + 1), 3, none⟩) (Nat.le_add_right b 1) (.int .i64 st)).setCell (p := ⟨(b + 1), 4, none⟩) (Nat.le_add_right b 1) (.string cf)).setCell (p := ⟨(b + 1), 5, none⟩) (Nat.le_add_right b 1) (.string dt)).setCell (p := ⟨(b + 1), 6, none⟩) (Nat.le_add_right b 1) (.slice A n c))
            obtain ⟨k9, hk9⟩ : ∃ k9, (((((((wb.setCell ⟨(b + 1), 0, none⟩ (.int .i64 ht)).setCell ⟨(b + 1), 1, none⟩ (.int .i64 hv)).setCell ⟨(b + 1), 2, none⟩ (.int .i64 ix)).setCell ⟨(b + 1), 3, none⟩ (.int .i64 st)).setCell ⟨(b + 1), 4, none⟩ (.string cf)).setCell ⟨(b + 1), 5, none⟩ (.string dt)).setCell ⟨(b + 1), 6, none⟩ (.slice A n c)) = k9 := ⟨_, rfl⟩
            rw [hk9] at hy9 hB9
            simp only [List.set_cons_zero, List.set_cons_succ] at hy9
            have HY9 := Lib.hid hy9
            have HB9 := Lib.hid hB9
            clear hy9 hB9
            go_wp2
            have hy9 := HY9.out
            have g0 := hy9.cell (j := 0) rfl
            have g1 := hy9.cell (j := 1) rfl
            have g2 := hy9.cell (j := 2) rfl
            have g3 := hy9.cell (j := 3) rfl
            have g4 := hy9.cell (j := 4) rfl
            have g5 := hy9.cell (j := 5) rfl
            have g6 := hy9.cell (j := 6) rfl
            have hwr : r = (1, k) := by rw [← HR.out]; exact write_fit (by rw [← HML.out]; exact hlt) (.inl (by rw [HEJ.out, ← HK.out]; exact hlo))
            refine bodyPost_ret (v := .tuple #[.agg #[.int .i64 ht, .int .i64 hv, .int .i64 ix, .int .i64 st, .string cf, .string dt, .slice A n c], .int .i64 1]) (by simp [results, Tryd.results9, go_sem, g0, g1, g2, g3, g4, g5, g6]) rfl ⟨.slice A n c, ?_, ?_, HB9.out⟩
            · rw [hwr, ← HK.out]
            · exact by rw [hwr]; show Ens _ k9 (.slice A n c) k.log; rw [← HK.out]; exact ((HE.out.below (by rw [HBb.out]; exact HB9.out)).mono (fun j hj _ => .inl hj))
          · have hnx0 : (nx : Int) = (lg.length : Int) := by have e1 := HWS.out.1 rfl; rw [← HK.out] at e1; rw [HNX.out, e1]
            have HNX0 := Lib.hid hnx0
            clear hnx0
            have hwx : IntKind.i64.wrap (ix + (nx : Int) + 1) = ix + (nx : Int) + 1 := by rw [IntKind.wrap_i64]; omega
            have y0 := HX.out.cell (j := 0) rfl
            have y1 := HX.out.cell (j := 1) rfl
            have y2 := HX.out.cell (j := 2) rfl
            have y3 := HX.out.cell (j := 3) rfl
            have y4 := HX.out.cell (j := 4) rfl
            have y5 := HX.out.cell (j := 5) rfl
            have y6 := HX.out.cell (j := 6) rfl
            by_cases hhi : ix + (nx : Int) + 1 < ex
            · go_wp2_with fail
              have hS0 : Below zs wr wr.drew := (Below.refl _ _).drew
              refine wp_region_noPanic ?_
              refine wp_region_held_drew (S := fun W => Below zs wr W) (by kernel_rfl) ?_ (fun hHeld => ?_)
              · exact hS0
              generalize wr.drew = wa at *
              refine wpAnyH_take (i := 0) (oi := { dst := some 17, op := Op.move (Operand.tmp 1), type := 22, pos := "ref.go:281", after := #[], guard := none }) (v := .slice (some ⟨g, o, none⟩) m c2) rfl (by kernel_rfl) (by kernel_rfl) (by kernel_rfl) (fun _ _ _ h => h) (Or.inl ⟨by rfl, fun w hSw => ?_⟩) (by assumption) ?_
              · (try dsimp only at hSw)
                go_simp
              try simp only [Act.put, List.setIfInBounds_toArray, List.set_cons_zero, List.set_cons_succ]
              refine wpAnyH_take (i := 1) (oi := { dst := some 18, op := Op.move (Operand.tmp 7), type := 3, pos := "ref.go:281", after := #[], guard := none }) (v := .int .i64 0) rfl (by kernel_rfl) (by kernel_rfl) (by kernel_rfl) (fun _ _ _ h => h) (Or.inl ⟨by rfl, fun w hSw => ?_⟩) (by assumption) ?_
              · (try dsimp only at hSw)
                go_simp
              try simp only [Act.put, List.setIfInBounds_toArray, List.set_cons_zero, List.set_cons_succ]
              refine wpAnyH_take (i := 2) (oi := { dst := some 19, op := Op.indexAddr 22 (Operand.tmp 17) (Operand.tmp 18), type := 0, pos := "ref.go:281", after := #[{ on := 0, ground := Ground.data }, { on := 1, ground := Ground.data }], guard := none }) (v := .pointer (some ⟨g, o, none⟩)) rfl (by kernel_rfl) (by kernel_rfl) (by kernel_rfl) (fun _ _ _ h => h) (Or.inl ⟨by rfl, fun w hSw => ?_⟩) (by assumption) ?_
              · (try dsimp only at hSw)
                go_simp
              try simp only [Act.put, List.setIfInBounds_toArray, List.set_cons_zero, List.set_cons_succ]
              refine wpAnyH_take (i := 3) (oi := { dst := some 20, op := Op.load 41 (Operand.tmp 19), type := 41, pos := "ref.go:281", after := #[{ on := 2, ground := Ground.data }], guard := none }) (v := .agg #[.int .i64 ex, .int .i64 et, .int .i64 kd, .string ed]) rfl (by kernel_rfl) (by kernel_rfl) (by kernel_rfl) (fun _ _ _ h => h) (Or.inl ⟨by rfl, fun w hSw => ?_⟩) (by assumption) ?_
              · (try dsimp only at hSw)
                have q0 := (hSw.cell (p := ⟨g, o, none⟩) hgz).trans c0
                have q1 := (hSw.cell (p := ⟨g, o + 1, none⟩) hgz).trans c1
                have q2 := (hSw.cell (p := ⟨g, o + 2, none⟩) hgz).trans c2'
                have q3 := (hSw.cell (p := ⟨g, o + 3, none⟩) hgz).trans c3
                go_simp
              try simp only [Act.put, List.setIfInBounds_toArray, List.set_cons_zero, List.set_cons_succ]
              refine wpAnyH_ready (rs := [4]) (by kernel_rfl) (by simp) ?_
              refine AllReadyH.cons (o := { dst := some 21, op := Op.call { callee := Callee.value (Operand.func 22), args := #[Operand.tmp 20], argTypes := #[41] }, type := 4, pos := "ref.go:281", after := #[{ on := 3, ground := Ground.data }], guard := none }) rfl (fun K hK => ?_) AllReadyH.nil
              go_simp
              go_at_call 22
              refine (HMAY.out _).mono ?_
              rintro e wb ⟨rfl, h⟩
              have hSb : Below zs wr wb := hHeld.trans (h.mono (by rw [← HZS.out]; exact hHeld.size))
              clear h
              refine hK.out _ _ ?_ (fun hHeld => ?_)
              · exact hSb
              clear hK K
              try simp only [Act.put, List.setIfInBounds_toArray, List.set_cons_zero, List.set_cons_succ]
              refine wpAnyH_take (i := 5) (oi := { dst := some 22, op := Op.unOp UnOp.not 4 (Operand.tmp 21), type := 4, pos := "ref.go:281", after := #[{ on := 4, ground := Ground.data }], guard := none }) (v := .bool false) rfl (by kernel_rfl) (by kernel_rfl) (by kernel_rfl) (fun _ _ _ h => h) (Or.inl ⟨by rfl, fun w hSw => ?_⟩) (by assumption) ?_
              · (try dsimp only at hSw)
                go_simp
              try simp only [Act.put, List.setIfInBounds_toArray, List.set_cons_zero, List.set_cons_succ]
              refine wpAnyH_take (i := 6) (oi := { dst := some 23, op := Op.move (Operand.tmp 22), type := 4, pos := "ref.go:281", after := #[{ on := 5, ground := Ground.data }, { on := 4, ground := Ground.chain }], guard := none }) (v := .bool false) rfl (by kernel_rfl) (by kernel_rfl) (by kernel_rfl) (fun _ _ _ h => h) (Or.inl ⟨by rfl, fun w hSw => ?_⟩) (by assumption) ?_
              · (try dsimp only at hSw)
                go_simp
              try simp only [Act.put, List.setIfInBounds_toArray, List.set_cons_zero, List.set_cons_succ]
              refine wpAnyH_take (i := 7) (oi := { dst := some 24, op := Op.move (Operand.tmp 7), type := 3, pos := "ref.go:281", after := #[{ on := 6, ground := Ground.guard }], guard := some (6, false) }) (v := .int .i64 0) rfl (by kernel_rfl) (by kernel_rfl) (by kernel_rfl) (fun _ _ _ h => h) (Or.inl ⟨by rfl, fun w hSw => ?_⟩) (by assumption) ?_
              · (try dsimp only at hSw)
                go_simp
              try simp only [Act.put, List.setIfInBounds_toArray, List.set_cons_zero, List.set_cons_succ]
              refine wpAnyH_take (i := 8) (oi := { dst := some 25, op := Op.binOp BinOp.gtr 3 (Operand.tmp 24) (Operand.const (Value.int IntKind.i64 0)) 3, type := 4, pos := "ref.go:281", after := #[{ on := 7, ground := Ground.data }, { on := 6, ground := Ground.guard }], guard := some (6, false) }) (v := .bool false) rfl (by kernel_rfl) (by kernel_rfl) (by kernel_rfl) (fun _ _ _ h => h) (Or.inl ⟨by rfl, fun w hSw => ?_⟩) (by assumption) ?_
              · (try dsimp only at hSw)
                go_simp
              try simp only [Act.put, List.setIfInBounds_toArray, List.set_cons_zero, List.set_cons_succ]
              refine wpAnyH_take (i := 9) (oi := { dst := some 26, op := Op.move (Operand.tmp 25), type := 4, pos := "ref.go:281", after := #[{ on := 8, ground := Ground.data }, { on := 6, ground := Ground.chain }, { on := 6, ground := Ground.guard }], guard := some (6, false) }) (v := .bool false) rfl (by kernel_rfl) (by kernel_rfl) (by kernel_rfl) (fun _ _ _ h => h) (Or.inl ⟨by rfl, fun w hSw => ?_⟩) (by assumption) ?_
              · (try dsimp only at hSw)
                go_simp
              try simp only [Act.put, List.setIfInBounds_toArray, List.set_cons_zero, List.set_cons_succ]
              refine wpAnyH_take (i := 10) (oi := { dst := some 27, op := Op.move (Operand.tmp 1), type := 22, pos := "ref.go:281", after := #[{ on := 9, ground := Ground.guard }], guard := some (9, true) }) (v := undef) rfl (by kernel_rfl) (by kernel_rfl) (by kernel_rfl) (fun _ _ _ h => h) (Or.inr ⟨by rfl, rfl⟩) (by assumption) ?_
              try simp only [Act.put, List.setIfInBounds_toArray, List.set_cons_zero, List.set_cons_succ]
              refine wpAnyH_take (i := 11) (oi := { dst := some 28, op := Op.move (Operand.tmp 7), type := 3, pos := "ref.go:281", after := #[{ on := 9, ground := Ground.guard }], guard := some (9, true) }) (v := undef) rfl (by kernel_rfl) (by kernel_rfl) (by kernel_rfl) (fun _ _ _ h => h) (Or.inr ⟨by rfl, rfl⟩) (by assumption) ?_
              try simp only [Act.put, List.setIfInBounds_toArray, List.set_cons_zero, List.set_cons_succ]
              refine wpAnyH_take (i := 12) (oi := { dst := some 29, op := Op.indexAddr 22 (Operand.tmp 27) (Operand.tmp 28), type := 0, pos := "ref.go:281", after := #[{ on := 10, ground := Ground.data }, { on := 11, ground := Ground.data }, { on := 9, ground := Ground.guard }], guard := some (9, true) }) (v := undef) rfl (by kernel_rfl) (by kernel_rfl) (by kernel_rfl) (fun _ _ _ h => h) (Or.inr ⟨by rfl, rfl⟩) (by assumption) ?_
              try simp only [Act.put, List.setIfInBounds_toArray, List.set_cons_zero, List.set_cons_succ]
              refine wpAnyH_take (i := 13) (oi := { dst := some 30, op := Op.fieldAddr 41 (Operand.tmp 29) 0, type := 0, pos := "ref.go:281", after := #[{ on := 12, ground := Ground.data }, { on := 9, ground := Ground.guard }], guard := some (9, true) }) (v := undef) rfl (by kernel_rfl) (by kernel_rfl) (by kernel_rfl) (fun _ _ _ h => h) (Or.inr ⟨by rfl, rfl⟩) (by assumption) ?_
              try simp only [Act.put, List.setIfInBounds_toArray, List.set_cons_zero, List.set_cons_succ]
              refine wpAnyH_take (i := 14) (oi := { dst := some 31, op := Op.load 2 (Operand.tmp 30), type := 2, pos := "ref.go:281", after := #[{ on := 13, ground := Ground.data }, { on := 9, ground := Ground.guard }], guard := some (9, true) }) (v := undef) rfl (by kernel_rfl) (by kernel_rfl) (by kernel_rfl) (fun _ _ _ h => h) (Or.inr ⟨by rfl, rfl⟩) (by assumption) ?_
              try simp only [Act.put, List.setIfInBounds_toArray, List.set_cons_zero, List.set_cons_succ]
              refine wpAnyH_take (i := 15) (oi := { dst := some 32, op := Op.move (Operand.tmp 1), type := 22, pos := "ref.go:281", after := #[{ on := 9, ground := Ground.guard }], guard := some (9, true) }) (v := undef) rfl (by kernel_rfl) (by kernel_rfl) (by kernel_rfl) (fun _ _ _ h => h) (Or.inr ⟨by rfl, rfl⟩) (by assumption) ?_
              try simp only [Act.put, List.setIfInBounds_toArray, List.set_cons_zero, List.set_cons_succ]
              refine wpAnyH_take (i := 16) (oi := { dst := some 33, op := Op.move (Operand.tmp 7), type := 3, pos := "ref.go:281", after := #[{ on := 9, ground := Ground.guard }], guard := some (9, true) }) (v := undef) rfl (by kernel_rfl) (by kernel_rfl) (by kernel_rfl) (fun _ _ _ h => h) (Or.inr ⟨by rfl, rfl⟩) (by assumption) ?_
              try simp only [Act.put, List.setIfInBounds_toArray, List.set_cons_zero, List.set_cons_succ]
              refine wpAnyH_take (i := 17) (oi := { dst := some 34, op := Op.binOp BinOp.sub 3 (Operand.tmp 33) (Operand.const (Value.int IntKind.i64 1)) 3, type := 3, pos := "ref.go:281", after := #[{ on := 16, ground := Ground.data }, { on := 9, ground := Ground.guard }], guard := some (9, true) }) (v := undef) rfl (by kernel_rfl) (by kernel_rfl) (by kernel_rfl) (fun _ _ _ h => h) (Or.inr ⟨by rfl, rfl⟩) (by assumption) ?_
              try simp only [Act.put, List.setIfInBounds_toArray, List.set_cons_zero, List.set_cons_succ]
              refine wpAnyH_take (i := 18) (oi := { dst := some 35, op := Op.indexAddr 22 (Operand.tmp 32) (Operand.tmp 34), type := 0, pos := "ref.go:281", after := #[{ on := 15, ground := Ground.data }, { on := 17, ground := Ground.data }, { on := 9, ground := Ground.guard }], guard := some (9, true) }) (v := undef) rfl (by kernel_rfl) (by kernel_rfl) (by kernel_rfl) (fun _ _ _ h => h) (Or.inr ⟨by rfl, rfl⟩) (by assumption) ?_
              try simp only [Act.put, List.setIfInBounds_toArray, List.set_cons_zero, List.set_cons_succ]
              refine wpAnyH_take (i := 19) (oi := { dst := some 36, op := Op.fieldAddr 41 (Operand.tmp 35) 0, type := 0, pos := "ref.go:281", after := #[{ on := 18, ground := Ground.data }, { on := 9, ground := Ground.guard }], guard := some (9, true) }) (v := undef) rfl (by kernel_rfl) (by kernel_rfl) (by kernel_rfl) (fun _ _ _ h => h) (Or.inr ⟨by rfl, rfl⟩) (by assumption) ?_
              try simp only [Act.put, List.setIfInBounds_toArray, List.set_cons_zero, List.set_cons_succ]
              refine wpAnyH_take (i := 20) (oi := { dst := some 37, op := Op.load 2 (Operand.tmp 36), type := 2, pos := "ref.go:281", after := #[{ on := 19, ground := Ground.data }, { on := 9, ground := Ground.guard }], guard := some (9, true) }) (v := undef) rfl (by kernel_rfl) (by kernel_rfl) (by kernel_rfl) (fun _ _ _ h => h) (Or.inr ⟨by rfl, rfl⟩) (by assumption) ?_
              try simp only [Act.put, List.setIfInBounds_toArray, List.set_cons_zero, List.set_cons_succ]
              refine wpAnyH_take (i := 21) (oi := { dst := some 38, op := Op.binOp BinOp.add 2 (Operand.tmp 37) (Operand.const (Value.int IntKind.i64 1)) 2, type := 2, pos := "ref.go:281", after := #[{ on := 20, ground := Ground.data }, { on := 9, ground := Ground.guard }], guard := some (9, true) }) (v := undef) rfl (by kernel_rfl) (by kernel_rfl) (by kernel_rfl) (fun _ _ _ h => h) (Or.inr ⟨by rfl, rfl⟩) (by assumption) ?_
              try simp only [Act.put, List.setIfInBounds_toArray, List.set_cons_zero, List.set_cons_succ]
              refine wpAnyH_take (i := 22) (oi := { dst := some 39, op := Op.binOp BinOp.neq 2 (Operand.tmp 31) (Operand.tmp 38) 2, type := 4, pos := "ref.go:281", after := #[{ on := 14, ground := Ground.data }, { on := 21, ground := Ground.data }, { on := 9, ground := Ground.guard }], guard := some (9, true) }) (v := undef) rfl (by kernel_rfl) (by kernel_rfl) (by kernel_rfl) (fun _ _ _ h => h) (Or.inr ⟨by rfl, rfl⟩) (by assumption) ?_
              try simp only [Act.put, List.setIfInBounds_toArray, List.set_cons_zero, List.set_cons_succ]
              refine wpAnyH_take (i := 23) (oi := { dst := some 40, op := Op.pick (Operand.tmp 26) (Operand.tmp 39) (Operand.const (Value.bool false)), type := 4, pos := "ref.go:281", after := #[{ on := 9, ground := Ground.data }, { on := 22, ground := Ground.data }, { on := 6, ground := Ground.guard }], guard := some (6, false) }) (v := .bool false) rfl (by kernel_rfl) (by kernel_rfl) (by kernel_rfl) (fun _ _ _ h => h) (Or.inl ⟨by rfl, fun w hSw => ?_⟩) (by assumption) ?_
              · (try dsimp only at hSw)
                go_simp
              try simp only [Act.put, List.setIfInBounds_toArray, List.set_cons_zero, List.set_cons_succ]
              refine wpAnyH_take (i := 24) (oi := { dst := some 41, op := Op.pick (Operand.tmp 23) (Operand.const (Value.bool true)) (Operand.tmp 40), type := 4, pos := "ref.go:281", after := #[{ on := 6, ground := Ground.data }, { on := 23, ground := Ground.data }], guard := none }) (v := .bool false) rfl (by kernel_rfl) (by kernel_rfl) (by kernel_rfl) (fun _ _ _ h => h) (Or.inl ⟨by rfl, fun w hSw => ?_⟩) (by assumption) ?_
              · (try dsimp only at hSw)
                go_simp
              try simp only [Act.put, List.setIfInBounds_toArray, List.set_cons_zero, List.set_cons_succ]
              refine wpAnyH_take (i := 25) (oi := { dst := some 42, op := Op.move (Operand.tmp 41), type := 4, pos := "ref.go:281", after := #[{ on := 24, ground := Ground.data }, { on := 9, ground := Ground.chain }], guard := none }) (v := .bool false) rfl (by kernel_rfl) (by kernel_rfl) (by kernel_rfl) (fun _ _ _ h => h) (Or.inl ⟨by rfl, fun w hSw => ?_⟩) (by assumption) ?_
              · (try dsimp only at hSw)
                go_simp
              try simp only [Act.put, List.setIfInBounds_toArray, List.set_cons_zero, List.set_cons_succ]
              refine wpAnyH_take (i := 26) (oi := { dst := some 43, op := Op.move (Operand.tmp 1), type := 22, pos := "ref.go:281", after := #[{ on := 25, ground := Ground.guard }], guard := some (25, false) }) (v := .slice (some ⟨g, o, none⟩) m c2) rfl (by kernel_rfl) (by kernel_rfl) (by kernel_rfl) (fun _ _ _ h => h) (Or.inl ⟨by rfl, fun w hSw => ?_⟩) (by assumption) ?_
              · (try dsimp only at hSw)
                go_simp
              try simp only [Act.put, List.setIfInBounds_toArray, List.set_cons_zero, List.set_cons_succ]
              refine wpAnyH_take (i := 27) (oi := { dst := some 44, op := Op.move (Operand.tmp 7), type := 3, pos := "ref.go:281", after := #[{ on := 25, ground := Ground.guard }], guard := some (25, false) }) (v := .int .i64 0) rfl (by kernel_rfl) (by kernel_rfl) (by kernel_rfl) (fun _ _ _ h => h) (Or.inl ⟨by rfl, fun w hSw => ?_⟩) (by assumption) ?_
              · (try dsimp only at hSw)
                go_simp
              try simp only [Act.put, List.setIfInBounds_toArray, List.set_cons_zero, List.set_cons_succ]
              refine wpAnyH_take (i := 28) (oi := { dst := some 45, op := Op.indexAddr 22 (Operand.tmp 43) (Operand.tmp 44), type := 0, pos := "ref.go:281", after := #[{ on := 26, ground := Ground.data }, { on := 27, ground := Ground.data }, { on := 25, ground := Ground.guard }], guard := some (25, false) }) (v := .pointer (some ⟨g, o, none⟩)) rfl (by kernel_rfl) (by kernel_rfl) (by kernel_rfl) (fun _ _ _ h => h) (Or.inl ⟨by rfl, fun w hSw => ?_⟩) (by assumption) ?_
              · (try dsimp only at hSw)
                go_simp
              try simp only [Act.put, List.setIfInBounds_toArray, List.set_cons_zero, List.set_cons_succ]
              refine wpAnyH_take (i := 29) (oi := { dst := some 46, op := Op.fieldAddr 41 (Operand.tmp 45) 0, type := 0, pos := "ref.go:281", after := #[{ on := 28, ground := Ground.data }, { on := 25, ground := Ground.guard }], guard := some (25, false) }) (v := .pointer (some ⟨g, o, none⟩)) rfl (by kernel_rfl) (by kernel_rfl) (by kernel_rfl) (fun _ _ _ h => h) (Or.inl ⟨by rfl, fun w hSw => ?_⟩) (by assumption) ?_
              · (try dsimp only at hSw)
                go_simp
              try simp only [Act.put, List.setIfInBounds_toArray, List.set_cons_zero, List.set_cons_succ]
              refine wpAnyH_take (i := 30) (oi := { dst := some 47, op := Op.load 2 (Operand.tmp 46), type := 2, pos := "ref.go:281", after := #[{ on := 29, ground := Ground.data }, { on := 25, ground := Ground.guard }], guard := some (25, false) }) (v := .int .i64 ex) rfl (by kernel_rfl) (by kernel_rfl) (by kernel_rfl) (fun _ _ _ h => h) (Or.inl ⟨by rfl, fun w hSw => ?_⟩) (by assumption) ?_
              · (try dsimp only at hSw)
                have q0 := (hSw.cell (p := ⟨g, o, none⟩) hgz).trans c0
                go_simp
              try simp only [Act.put, List.setIfInBounds_toArray, List.set_cons_zero, List.set_cons_succ]
              refine wpAnyH_take (i := 31) (oi := { dst := some 48, op := Op.fieldAddr 38 (Operand.tmp 6) 1, type := 0, pos := "ref.go:281", after := #[{ on := 25, ground := Ground.guard }], guard := some (25, false) }) (v := .pointer (some ⟨b + 2, 2, none⟩)) rfl (by kernel_rfl) (by kernel_rfl) (by kernel_rfl) (fun _ _ _ h => h) (Or.inl ⟨by rfl, fun w hSw => ?_⟩) (by assumption) ?_
              · (try dsimp only at hSw)
                go_simp
              try simp only [Act.put, List.setIfInBounds_toArray, List.set_cons_zero, List.set_cons_succ]
              refine wpAnyH_take (i := 32) (oi := { dst := some 49, op := Op.fieldAddr 33 (Operand.tmp 48) 0, type := 0, pos := "ref.go:281", after := #[{ on := 31, ground := Ground.data }, { on := 25, ground := Ground.guard }], guard := some (25, false) }) (v := .pointer (some ⟨b + 2, 2, none⟩)) rfl (by kernel_rfl) (by kernel_rfl) (by kernel_rfl) (fun _ _ _ h => h) (Or.inl ⟨by rfl, fun w hSw => ?_⟩) (by assumption) ?_
              · (try dsimp only at hSw)
                go_simp
              try simp only [Act.put, List.setIfInBounds_toArray, List.set_cons_zero, List.set_cons_succ]
              refine wpAnyH_take (i := 33) (oi := { dst := some 50, op := Op.load 2 (Operand.tmp 49), type := 2, pos := "ref.go:281", after := #[{ on := 32, ground := Ground.data }, { on := 25, ground := Ground.guard }], guard := some (25, false) }) (v := .int .i64 ix) rfl (by kernel_rfl) (by kernel_rfl) (by kernel_rfl) (fun _ _ _ h => h) (Or.inl ⟨by rfl, fun w hSw => ?_⟩) (by assumption) ?_
              · (try dsimp only at hSw)
                have q0 := (hSw.cell (p := ⟨b + 2, 2, none⟩) hxz).trans x3
                go_simp
              try simp only [Act.put, List.setIfInBounds_toArray, List.set_cons_zero, List.set_cons_succ]
              refine wpAnyH_take (i := 34) (oi := { dst := some 51, op := Op.binOp BinOp.leq 2 (Operand.tmp 47) (Operand.tmp 50) 2, type := 4, pos := "ref.go:281", after := #[{ on := 30, ground := Ground.data }, { on := 33, ground := Ground.data }, { on := 25, ground := Ground.guard }], guard := some (25, false) }) (v := .bool false) rfl (by kernel_rfl) (by kernel_rfl) (by kernel_rfl) (fun _ _ _ h => h) (Or.inl ⟨by rfl, fun w hSw => ?_⟩) (by assumption) ?_
              · (try dsimp only at hSw)
                go_simp
              try simp only [Act.put, List.setIfInBounds_toArray, List.set_cons_zero, List.set_cons_succ]
              refine wpAnyH_take (i := 35) (oi := { dst := some 52, op := Op.pick (Operand.tmp 42) (Operand.const (Value.bool true)) (Operand.tmp 51), type := 4, pos := "ref.go:281", after := #[{ on := 25, ground := Ground.data }, { on := 34, ground := Ground.data }], guard := none }) (v := .bool false) rfl (by kernel_rfl) (by kernel_rfl) (by kernel_rfl) (fun _ _ _ h => h) (Or.inl ⟨by rfl, fun w hSw => ?_⟩) (by assumption) ?_
              · (try dsimp only at hSw)
                go_simp
              try simp only [Act.put, List.setIfInBounds_toArray, List.set_cons_zero, List.set_cons_succ]
              refine wpAnyH_take (i := 36) (oi := { dst := some 53, op := Op.move (Operand.tmp 52), type := 4, pos := "ref.go:281", after := #[{ on := 35, ground := Ground.data }, { on := 25, ground := Ground.chain }], guard := none }) (v := .bool false) rfl (by kernel_rfl) (by kernel_rfl) (by kernel_rfl) (fun _ _ _ h => h) (Or.inl ⟨by rfl, fun w hSw => ?_⟩) (by assumption) ?_
              · (try dsimp only at hSw)
                go_simp
              try simp only [Act.put, List.setIfInBounds_toArray, List.set_cons_zero, List.set_cons_succ]
              refine wpAnyH_take (i := 37) (oi := { dst := some 54, op := Op.move (Operand.tmp 1), type := 22, pos := "ref.go:281", after := #[{ on := 36, ground := Ground.guard }], guard := some (36, false) }) (v := .slice (some ⟨g, o, none⟩) m c2) rfl (by kernel_rfl) (by kernel_rfl) (by kernel_rfl) (fun _ _ _ h => h) (Or.inl ⟨by rfl, fun w hSw => ?_⟩) (by assumption) ?_
              · (try dsimp only at hSw)
                go_simp
              try simp only [Act.put, List.setIfInBounds_toArray, List.set_cons_zero, List.set_cons_succ]
              refine wpAnyH_take (i := 38) (oi := { dst := some 55, op := Op.move (Operand.tmp 7), type := 3, pos := "ref.go:281", after := #[{ on := 36, ground := Ground.guard }], guard := some (36, false) }) (v := .int .i64 0) rfl (by kernel_rfl) (by kernel_rfl) (by kernel_rfl) (fun _ _ _ h => h) (Or.inl ⟨by rfl, fun w hSw => ?_⟩) (by assumption) ?_
              · (try dsimp only at hSw)
                go_simp
              try simp only [Act.put, List.setIfInBounds_toArray, List.set_cons_zero, List.set_cons_succ]
              refine wpAnyH_take (i := 39) (oi := { dst := some 56, op := Op.indexAddr 22 (Operand.tmp 54) (Operand.tmp 55), type := 0, pos := "ref.go:281", after := #[{ on := 37, ground := Ground.data }, { on := 38, ground := Ground.data }, { on := 36, ground := Ground.guard }], guard := some (36, false) }) (v := .pointer (some ⟨g, o, none⟩)) rfl (by kernel_rfl) (by kernel_rfl) (by kernel_rfl) (fun _ _ _ h => h) (Or.inl ⟨by rfl, fun w hSw => ?_⟩) (by assumption) ?_
              · (try dsimp only at hSw)
                go_simp
              try simp only [Act.put, List.setIfInBounds_toArray, List.set_cons_zero, List.set_cons_succ]
              refine wpAnyH_take (i := 40) (oi := { dst := some 57, op := Op.fieldAddr 41 (Operand.tmp 56) 0, type := 0, pos := "ref.go:281", after := #[{ on := 39, ground := Ground.data }, { on := 36, ground := Ground.guard }], guard := some (36, false) }) (v := .pointer (some ⟨g, o, none⟩)) rfl (by kernel_rfl) (by kernel_rfl) (by kernel_rfl) (fun _ _ _ h => h) (Or.inl ⟨by rfl, fun w hSw => ?_⟩) (by assumption) ?_
              · (try dsimp only at hSw)
                go_simp
              try simp only [Act.put, List.setIfInBounds_toArray, List.set_cons_zero, List.set_cons_succ]
              refine wpAnyH_take (i := 41) (oi := { dst := some 58, op := Op.load 2 (Operand.tmp 57), type := 2, pos := "ref.go:281", after := #[{ on := 40, ground := Ground.data }, { on := 36, ground := Ground.guard }], guard := some (36, false) }) (v := .int .i64 ex) rfl (by kernel_rfl) (by kernel_rfl) (by kernel_rfl) (fun _ _ _ h => h) (Or.inl ⟨by rfl, fun w hSw => ?_⟩) (by assumption) ?_
              · (try dsimp only at hSw)
                have q0 := (hSw.cell (p := ⟨g, o, none⟩) hgz).trans c0
                go_simp
              try simp only [Act.put, List.setIfInBounds_toArray, List.set_cons_zero, List.set_cons_succ]
              refine wpAnyH_take (i := 42) (oi := { dst := some 59, op := Op.load 38 (Operand.tmp 6), type := 38, pos := "ref.go:281", after := #[{ on := 36, ground := Ground.guard }], guard := some (36, false) }) (v := .agg #[.int .i64 ht, .int .i64 hv, .int .i64 ix, .int .i64 st, .string cf, .string dt, .slice Ax nx cx]) rfl (by kernel_rfl) (by kernel_rfl) (by kernel_rfl) (fun _ _ _ h => h) (Or.inl ⟨by rfl, fun w hSw => ?_⟩) (by assumption) ?_
              · (try dsimp only at hSw)
                have q0 := (hSw.cell (p := ⟨b + 2, 0, none⟩) hxz).trans y0
                have q1 := (hSw.cell (p := ⟨b + 2, 1, none⟩) hxz).trans y1
                have q2 := (hSw.cell (p := ⟨b + 2, 2, none⟩) hxz).trans y2
                have q3 := (hSw.cell (p := ⟨b + 2, 3, none⟩) hxz).trans y3
                have q4 := (hSw.cell (p := ⟨b + 2, 4, none⟩) hxz).trans y4
                have q5 := (hSw.cell (p := ⟨b + 2, 5, none⟩) hxz).trans y5
                have q6 := (hSw.cell (p := ⟨b + 2, 6, none⟩) hxz).trans y6
                go_simp
              try simp only [Act.put, List.setIfInBounds_toArray, List.set_cons_zero, List.set_cons_succ]
              refine wpAnyH_ready (rs := [43]) (by kernel_rfl) (by simp) ?_
              refine AllReadyH.cons (o := { dst := some 60, op := Op.call { callee := Callee.value (Operand.func 23), args := #[Operand.tmp 59], argTypes := #[38] }, type := 2, pos := "ref.go:281", after := #[{ on := 42, ground := Ground.data }, { on := 36, ground := Ground.chain }, { on := 36, ground := Ground.guard }], guard := some (36, false) }) rfl (fun K hK => ?_) AllReadyH.nil
              go_simp
              go_at_call 23
              refine (rlastS_any ht hv ix st cf dt Ax nx cx _ h0 h1 (by omega)).mono ?_
              rintro e wc ⟨rfl, h⟩
              have hSc : Below zs wr wc := hSb.trans (h.mono (by rw [← HZS.out]; exact hSb.size))
              clear h
              refine hK.out _ _ ?_ (fun hHeld => ?_)
              · exact hSc
              clear hK K
              try simp only [Act.put, List.setIfInBounds_toArray, List.set_cons_zero, List.set_cons_succ]
              refine wpAnyH_take (i := 44) (oi := { dst := some 61, op := Op.binOp BinOp.add 2 (Operand.tmp 60) (Operand.const (Value.int IntKind.i64 1)) 2, type := 2, pos := "ref.go:281", after := #[{ on := 43, ground := Ground.data }, { on := 36, ground := Ground.guard }], guard := some (36, false) }) (v := .int .i64 (ix + (nx : Int) + 1)) rfl (by kernel_rfl) (by kernel_rfl) (by kernel_rfl) (fun _ _ _ h => h) (Or.inl ⟨by rfl, fun w hSw => ?_⟩) (by assumption) ?_
              · (try dsimp only at hSw)
                go_simp
              try simp only [Act.put, List.setIfInBounds_toArray, List.set_cons_zero, List.set_cons_succ]
              refine wpAnyH_take (i := 45) (oi := { dst := some 62, op := Op.binOp BinOp.gtr 2 (Operand.tmp 58) (Operand.tmp 61) 2, type := 4, pos := "ref.go:281", after := #[{ on := 41, ground := Ground.data }, { on := 44, ground := Ground.data }, { on := 36, ground := Ground.guard }], guard := some (36, false) }) (v := .bool true) rfl (by kernel_rfl) (by kernel_rfl) (by kernel_rfl) (fun _ _ _ h => h) (Or.inl ⟨by rfl, fun w hSw => ?_⟩) (by assumption) ?_
              · (try dsimp only at hSw)
                go_simp
              try simp only [Act.put, List.setIfInBounds_toArray, List.set_cons_zero, List.set_cons_succ]
              refine wpAnyH_take (i := 46) (oi := { dst := some 63, op := Op.pick (Operand.tmp 53) (Operand.const (Value.bool true)) (Operand.tmp 62), type := 4, pos := "ref.go:281", after := #[{ on := 36, ground := Ground.data }, { on := 45, ground := Ground.data }], guard := none }) (v := .bool true) rfl (by kernel_rfl) (by kernel_rfl) (by kernel_rfl) (fun _ _ _ h => h) (Or.inl ⟨by rfl, fun w hSw => ?_⟩) (by assumption) ?_
              · (try dsimp only at hSw)
                go_simp
              try simp only [Act.put, List.setIfInBounds_toArray, List.set_cons_zero, List.set_cons_succ]
              refine wpAnyH_done (by kernel_rfl) ?_ _
              refine NoPanic.normal ?_
              clear hwx
              have hs5 := HS.out.below (by rw [HZS.out]; exact hSc)
              have hr5 := HRR2.out.below (by rw [HZS.out]; exact hSc)
              have hB5 := HBw.out.trans (hSc.mono (by rw [← HZS.out]; have := HX.out.lt; omega))
              have u0 := hs5.cell (j := 0) rfl
              have u1 := hs5.cell (j := 1) rfl
              have u2 := hs5.cell (j := 2) rfl
              have u3 := hs5.cell (j := 3) rfl
              have u4 := hs5.cell (j := 4) rfl
              have u5 := hs5.cell (j := 5) rfl
              have u6 := hs5.cell (j := 6) rfl
              have d0 := hr5.cell (j := 0) rfl
              have e0 := hr5.frz 0
              have d1 := hr5.cell (j := 1) rfl
              have e1 := hr5.frz 1
              have d2 := hr5.cell (j := 2) rfl
              have e2 := hr5.frz 2
              have d3 := hr5.cell (j := 3) rfl
              have e3 := hr5.frz 3
              have d4 := hr5.cell (j := 4) rfl
              have e4 := hr5.frz 4
              have d5 := hr5.cell (j := 5) rfl
              have e5 := hr5.frz 5
              have d6 := hr5.cell (j := 6) rfl
              have e6 := hr5.frz 6
              have hy9 := (((((((hr5.set 0 (.int .i64 ht)).set 1 (.int .i64 hv)).set 2 (.int .i64 ix)).set 3 (.int .i64 st)).set 4 (.string cf)).set 5 (.string dt)).set 6 (.slice A n c))
              have hB9 := (((((((hB5.setCell (p := ⟨(b + 1), 0, none⟩) (Nat.le_add_right b 1) (.int .i64 ht)).setCell (p := ⟨(b + 1), 1, none⟩) (Nat.le_add_right b 1) (.int .i64 hv)).setCell (p := ⟨(b + 1), 2, none⟩) (Nat.le_add_right b 1) (.int .i64 ix)).setCell (p := ⟨(b + 1), 3, none⟩) (Nat.le_add_right b 1) (.int .i64 st)).setCell (p := ⟨(b + 1), 4, none⟩) (Nat.le_add_right b 1) (.string cf)).setCell (p := ⟨(b + 1), 5, none⟩) (Nat.le_add_right b 1) (.string dt)).setCell (p := ⟨(b + 1), 6, none⟩) (Nat.le_add_right b 1) (.slice A n c))
              obtain ⟨k9, hk9⟩ : ∃ k9, (((((((wc.setCell ⟨(b + 1), 0, none⟩ (.int .i64 ht)).setCell ⟨(b + 1), 1, none⟩ (.int .i64 hv)).setCell ⟨(b + 1), 2, none⟩ (.int .i64 ix)).setCell ⟨(b + 1), 3, none⟩ (.int .i64 st)).setCell ⟨(b + 1), 4, none⟩ (.string cf)).setCell ⟨(b + 1), 5, none⟩ (.string dt)).setCell ⟨(b + 1), 6, none⟩ (.slice A n c)) = k9 := ⟨_, rfl⟩
              rw [hk9] at hy9 hB9
              simp only [List.set_cons_zero, List.set_cons_succ] at hy9
              have HY9 := Lib.hid hy9
              have HB9 := Lib.hid hB9
              clear hy9 hB9
              go_wp2
              have hy9 := HY9.out
              have g0 := hy9.cell (j := 0) rfl
              have g1 := hy9.cell (j := 1) rfl
              have g2 := hy9.cell (j := 2) rfl
              have g3 := hy9.cell (j := 3) rfl
              have g4 := hy9.cell (j := 4) rfl
              have g5 := hy9.cell (j := 5) rfl
              have g6 := hy9.cell (j := 6) rfl
              have hwr : r = (1, k) := by rw [← HR.out]; exact write_fit (by rw [← HML.out]; exact hlt) (.inr (by rw [HEJ.out, ← HK.out]; have := HNX0.out; show ix + (lg.length : Int) + 1 < ex; omega))
              refine bodyPost_ret (v := .tuple #[.agg #[.int .i64 ht, .int .i64 hv, .int .i64 ix, .int .i64 st, .string cf, .string dt, .slice A n c], .int .i64 1]) (by simp [results, Tryd.results9, go_sem, g0, g1, g2, g3, g4, g5, g6]) rfl ⟨.slice A n c, ?_, ?_, HB9.out⟩
              · rw [hwr, ← HK.out]
              · exact by rw [hwr]; show Ens _ k9 (.slice A n c) k.log; rw [← HK.out]; exact ((HE.out.below (by rw [HBb.out]; exact HB9.out)).mono (fun j hj _ => .inl hj))
            · go_wp2_with fail
              have hS0 : Below zs wr wr.drew := (Below.refl _ _).drew
              refine wp_region_noPanic ?_
              refine wp_region_held_drew (S := fun W => Below zs wr W) (by kernel_rfl) ?_ (fun hHeld => ?_)
              · exact hS0
              generalize wr.drew = wa at *
              refine wpAnyH_take (i := 0) (oi := { dst := some 17, op := Op.move (Operand.tmp 1), type := 22, pos := "ref.go:281", after := #[], guard := none }) (v := .slice (some ⟨g, o, none⟩) m c2) rfl (by kernel_rfl) (by kernel_rfl) (by kernel_rfl) (fun _ _ _ h => h) (Or.inl ⟨by rfl, fun w hSw => ?_⟩) (by assumption) ?_
              · (try dsimp only at hSw)
                go_simp
              try simp only [Act.put, List.setIfInBounds_toArray, List.set_cons_zero, List.set_cons_succ]
              refine wpAnyH_take (i := 1) (oi := { dst := some 18, op := Op.move (Operand.tmp 7), type := 3, pos := "ref.go:281", after := #[], guard := none }) (v := .int .i64 0) rfl (by kernel_rfl) (by kernel_rfl) (by kernel_rfl) (fun _ _ _ h => h) (Or.inl ⟨by rfl, fun w hSw => ?_⟩) (by assumption) ?_
              · (try dsimp only at hSw)
                go_simp
              try simp only [Act.put, List.setIfInBounds_toArray, List.set_cons_zero, List.set_cons_succ]
              refine wpAnyH_take (i := 2) (oi := { dst := some 19, op := Op.indexAddr 22 (Operand.tmp 17) (Operand.tmp 18), type := 0, pos := "ref.go:281", after := #[{ on := 0, ground := Ground.data }, { on := 1, ground := Ground.data }], guard := none }) (v := .pointer (some ⟨g, o, none⟩)) rfl (by kernel_rfl) (by kernel_rfl) (by kernel_rfl) (fun _ _ _ h => h) (Or.inl ⟨by rfl, fun w hSw => ?_⟩) (by assumption) ?_
              · (try dsimp only at hSw)
                go_simp
              try simp only [Act.put, List.setIfInBounds_toArray, List.set_cons_zero, List.set_cons_succ]
              refine wpAnyH_take (i := 3) (oi := { dst := some 20, op := Op.load 41 (Operand.tmp 19), type := 41, pos := "ref.go:281", after := #[{ on := 2, ground := Ground.data }], guard := none }) (v := .agg #[.int .i64 ex, .int .i64 et, .int .i64 kd, .string ed]) rfl (by kernel_rfl) (by kernel_rfl) (by kernel_rfl) (fun _ _ _ h => h) (Or.inl ⟨by rfl, fun w hSw => ?_⟩) (by assumption) ?_
              · (try dsimp only at hSw)
                have q0 := (hSw.cell (p := ⟨g, o, none⟩) hgz).trans c0
                have q1 := (hSw.cell (p := ⟨g, o + 1, none⟩) hgz).trans c1
                have q2 := (hSw.cell (p := ⟨g, o + 2, none⟩) hgz).trans c2'
                have q3 := (hSw.cell (p := ⟨g, o + 3, none⟩) hgz).trans c3
                go_simp
              try simp only [Act.put, List.setIfInBounds_toArray, List.set_cons_zero, List.set_cons_succ]
              refine wpAnyH_ready (rs := [4]) (by kernel_rfl) (by simp) ?_
              refine AllReadyH.cons (o := { dst := some 21, op := Op.call { callee := Callee.value (Operand.func 22), args := #[Operand.tmp 20], argTypes := #[41] }, type := 4, pos := "ref.go:281", after := #[{ on := 3, ground := Ground.data }], guard := none }) rfl (fun K hK => ?_) AllReadyH.nil
              go_simp
              go_at_call 22
              refine (HMAY.out _).mono ?_
              rintro e wb ⟨rfl, h⟩
              have hSb : Below zs wr wb := hHeld.trans (h.mono (by rw [← HZS.out]; exact hHeld.size))
              clear h
              refine hK.out _ _ ?_ (fun hHeld => ?_)
              · exact hSb
              clear hK K
              try simp only [Act.put, List.setIfInBounds_toArray, List.set_cons_zero, List.set_cons_succ]
              refine wpAnyH_take (i := 5) (oi := { dst := some 22, op := Op.unOp UnOp.not 4 (Operand.tmp 21), type := 4, pos := "ref.go:281", after := #[{ on := 4, ground := Ground.data }], guard := none }) (v := .bool false) rfl (by kernel_rfl) (by kernel_rfl) (by kernel_rfl) (fun _ _ _ h => h) (Or.inl ⟨by rfl, fun w hSw => ?_⟩) (by assumption) ?_
              · (try dsimp only at hSw)
                go_simp
              try simp only [Act.put, List.setIfInBounds_toArray, List.set_cons_zero, List.set_cons_succ]
              refine wpAnyH_take (i := 6) (oi := { dst := some 23, op := Op.move (Operand.tmp 22), type := 4, pos := "ref.go:281", after := #[{ on := 5, ground := Ground.data }, { on := 4, ground := Ground.chain }], guard := none }) (v := .bool false) rfl (by kernel_rfl) (by kernel_rfl) (by kernel_rfl) (fun _ _ _ h => h) (Or.inl ⟨by rfl, fun w hSw => ?_⟩) (by assumption) ?_
              · (try dsimp only at hSw)
                go_simp
              try simp only [Act.put, List.setIfInBounds_toArray, List.set_cons_zero, List.set_cons_succ]
              refine wpAnyH_take (i := 7) (oi := { dst := some 24, op := Op.move (Operand.tmp 7), type := 3, pos := "ref.go:281", after := #[{ on := 6, ground := Ground.guard }], guard := some (6, false) }) (v := .int .i64 0) rfl (by kernel_rfl) (by kernel_rfl) (by kernel_rfl) (fun _ _ _ h => h) (Or.inl ⟨by rfl, fun w hSw => ?_⟩) (by assumption) ?_
              · (try dsimp only at hSw)
                go_simp
              try simp only [Act.put, List.setIfInBounds_toArray, List.set_cons_zero, List.set_cons_succ]
              refine wpAnyH_take (i := 8) (oi := { dst := some 25, op := Op.binOp BinOp.gtr 3 (Operand.tmp 24) (Operand.const (Value.int IntKind.i64 0)) 3, type := 4, pos := "ref.go:281", after := #[{ on := 7, ground := Ground.data }, { on := 6, ground := Ground.guard }], guard := some (6, false) }) (v := .bool false) rfl (by kernel_rfl) (by kernel_rfl) (by kernel_rfl) (fun _ _ _ h => h) (Or.inl ⟨by rfl, fun w hSw => ?_⟩) (by assumption) ?_
              · (try dsimp only at hSw)
                go_simp
              try simp only [Act.put, List.setIfInBounds_toArray, List.set_cons_zero, List.set_cons_succ]
              refine wpAnyH_take (i := 9) (oi := { dst := some 26, op := Op.move (Operand.tmp 25), type := 4, pos := "ref.go:281", after := #[{ on := 8, ground := Ground.data }, { on := 6, ground := Ground.chain }, { on := 6, ground := Ground.guard }], guard := some (6, false) }) (v := .bool false) rfl (by kernel_rfl) (by kernel_rfl) (by kernel_rfl) (fun _ _ _ h => h) (Or.inl ⟨by rfl, fun w hSw => ?_⟩) (by assumption) ?_
              · (try dsimp only at hSw)
                go_simp
              try simp only [Act.put, List.setIfInBounds_toArray, List.set_cons_zero, List.set_cons_succ]
              refine wpAnyH_take (i := 10) (oi := { dst := some 27, op := Op.move (Operand.tmp 1), type := 22, pos := "ref.go:281", after := #[{ on := 9, ground := Ground.guard }], guard := some (9, true) }) (v := undef) rfl (by kernel_rfl) (by kernel_rfl) (by kernel_rfl) (fun _ _ _ h => h) (Or.inr ⟨by rfl, rfl⟩) (by assumption) ?_
              try simp only [Act.put, List.setIfInBounds_toArray, List.set_cons_zero, List.set_cons_succ]
              refine wpAnyH_take (i := 11) (oi := { dst := some 28, op := Op.move (Operand.tmp 7), type := 3, pos := "ref.go:281", after := #[{ on := 9, ground := Ground.guard }], guard := some (9, true) }) (v := undef) rfl (by kernel_rfl) (by kernel_rfl) (by kernel_rfl) (fun _ _ _ h => h) (Or.inr ⟨by rfl, rfl⟩) (by assumption) ?_
              try simp only [Act.put, List.setIfInBounds_toArray, List.set_cons_zero, List.set_cons_succ]
              refine wpAnyH_take (i := 12) (oi := { dst := some 29, op := Op.indexAddr 22 (Operand.tmp 27) (Operand.tmp 28), type := 0, pos := "ref.go:281", after := #[{ on := 10, ground := Ground.data }, { on := 11, ground := Ground.data }, { on := 9, ground := Ground.guard }], guard := some (9, true) }) (v := undef) rfl (by kernel_rfl) (by kernel_rfl) (by kernel_rfl) (fun _ _ _ h => h) (Or.inr ⟨by rfl, rfl⟩) (by assumption) ?_
              try simp only [Act.put, List.setIfInBounds_toArray, List.set_cons_zero, List.set_cons_succ]
              refine wpAnyH_take (i := 13) (oi := { dst := some 30, op := Op.fieldAddr 41 (Operand.tmp 29) 0, type := 0, pos := "ref.go:281", after := #[{ on := 12, ground := Ground.data }, { on := 9, ground := Ground.guard }], guard := some (9, true) }) (v := undef) rfl (by kernel_rfl) (by kernel_rfl) (by kernel_rfl) (fun _ _ _ h => h) (Or.inr ⟨by rfl, rfl⟩) (by assumption) ?_
              try simp only [Act.put, List.setIfInBounds_toArray, List.set_cons_zero, List.set_cons_succ]
              refine wpAnyH_take (i := 14) (oi := { dst := some 31, op := Op.load 2 (Operand.tmp 30), type := 2, pos := "ref.go:281", after := #[{ on := 13, ground := Ground.data }, { on := 9, ground := Ground.guard }], guard := some (9, true) }) (v := undef) rfl (by kernel_rfl) (by kernel_rfl) (by kernel_rfl) (fun _ _ _ h => h) (Or.inr ⟨by rfl, rfl⟩) (by assumption) ?_
              try simp only [Act.put, List.setIfInBounds_toArray, List.set_cons_zero, List.set_cons_succ]
              refine wpAnyH_take (i := 15) (oi := { dst := some 32, op := Op.move (Operand.tmp 1), type := 22, pos := "ref.go:281", after := #[{ on := 9, ground := Ground.guard }], guard := some (9, true) }) (v := undef) rfl (by kernel_rfl) (by kernel_rfl) (by kernel_rfl) (fun _ _ _ h => h) (Or.inr ⟨by rfl, rfl⟩) (by assumption) ?_
              try simp only [Act.put, List.setIfInBounds_toArray, List.set_cons_zero, List.set_cons_succ]
              refine wpAnyH_take (i := 16) (oi := { dst := some 33, op := Op.move (Operand.tmp 7), type := 3, pos := "ref.go:281", after := #[{ on := 9, ground := Ground.guard }], guard := some (9, true) }) (v := undef) rfl (by kernel_rfl) (by kernel_rfl) (by kernel_rfl) (fun _ _ _ h => h) (Or.inr ⟨by rfl, rfl⟩) (by assumption) ?_
              try simp only [Act.put, List.setIfInBounds_toArray, List.set_cons_zero, List.set_cons_succ]
              refine wpAnyH_take (i := 17) (oi := { dst := some 34, op := Op.binOp BinOp.sub 3 (Operand.tmp 33) (Operand.const (Value.int IntKind.i64 1)) 3, type := 3, pos := "ref.go:281", after := #[{ on := 16, ground := Ground.data }, { on := 9, ground := Ground.guard }], guard := some (9, true) }) (v := undef) rfl (by kernel_rfl) (by kernel_rfl) (by kernel_rfl) (fun _ _ _ h => h) (Or.inr ⟨by rfl, rfl⟩) (by assumption) ?_
              try simp only [Act.put, List.setIfInBounds_toArray, List.set_cons_zero, List.set_cons_succ]
              refine wpAnyH_take (i := 18) (oi := { dst := some 35, op := Op.indexAddr 22 (Operand.tmp 32) (Operand.tmp 34), type := 0, pos := "ref.go:281", after := #[{ on := 15, ground := Ground.data }, { on := 17, ground := Ground.data }, { on := 9, ground := Ground.guard }], guard := some (9, true) }) (v := undef) rfl (by kernel_rfl) (by kernel_rfl) (by kernel_rfl) (fun _ _ _ h => h) (Or.inr ⟨by rfl, rfl⟩) (by assumption) ?_
              try simp only [Act.put, List.setIfInBounds_toArray, List.set_cons_zero, List.set_cons_succ]
              refine wpAnyH_take (i := 19) (oi := { dst := some 36, op := Op.fieldAddr 41 (Operand.tmp 35) 0, type := 0, pos := "ref.go:281", after := #[{ on := 18, ground := Ground.data }, { on := 9, ground := Ground.guard }], guard := some (9, true) }) (v := undef) rfl (by kernel_rfl) (by kernel_rfl) (by kernel_rfl) (fun _ _ _ h => h) (Or.inr ⟨by rfl, rfl⟩) (by assumption) ?_
              try simp only [Act.put, List.setIfInBounds_toArray, List.set_cons_zero, List.set_cons_succ]
              refine wpAnyH_take (i := 20) (oi := { dst := some 37, op := Op.load 2 (Operand.tmp 36), type := 2, pos := "ref.go:281", after := #[{ on := 19, ground := Ground.data }, { on := 9, ground := Ground.guard }], guard := some (9, true) }) (v := undef) rfl (by kernel_rfl) (by kernel_rfl) (by kernel_rfl) (fun _ _ _ h => h) (Or.inr ⟨by rfl, rfl⟩) (by assumption) ?_
              try simp only [Act.put, List.setIfInBounds_toArray, List.set_cons_zero, List.set_cons_succ]
              refine wpAnyH_take (i := 21) (oi := { dst := some 38, op := Op.binOp BinOp.add 2 (Operand.tmp 37) (Operand.const (Value.int IntKind.i64 1)) 2, type := 2, pos := "ref.go:281", after := #[{ on := 20, ground := Ground.data }, { on := 9, ground := Ground.guard }], guard := some (9, true) }) (v := undef) rfl (by kernel_rfl) (by kernel_rfl) (by kernel_rfl) (fun _ _ _ h => h) (Or.inr ⟨by rfl, rfl⟩) (by assumption) ?_
              try simp only [Act.put, List.setIfInBounds_toArray, List.set_cons_zero, List.set_cons_succ]
              refine wpAnyH_take (i := 22) (oi := { dst := some 39, op := Op.binOp BinOp.neq 2 (Operand.tmp 31) (Operand.tmp 38) 2, type := 4, pos := "ref.go:281", after := #[{ on := 14, ground := Ground.data }, { on := 21, ground := Ground.data }, { on := 9, ground := Ground.guard }], guard := some (9, true) }) (v := undef) rfl (by kernel_rfl) (by kernel_rfl) (by kernel_rfl) (fun _ _ _ h => h) (Or.inr ⟨by rfl, rfl⟩) (by assumption) ?_
              try simp only [Act.put, List.setIfInBounds_toArray, List.set_cons_zero, List.set_cons_succ]
              refine wpAnyH_take (i := 23) (oi := { dst := some 40, op := Op.pick (Operand.tmp 26) (Operand.tmp 39) (Operand.const (Value.bool false)), type := 4, pos := "ref.go:281", after := #[{ on := 9, ground := Ground.data }, { on := 22, ground := Ground.data }, { on := 6, ground := Ground.guard }], guard := some (6, false) }) (v := .bool false) rfl (by kernel_rfl) (by kernel_rfl) (by kernel_rfl) (fun _ _ _ h => h) (Or.inl ⟨by rfl, fun w hSw => ?_⟩) (by assumption) ?_
              · (try dsimp only at hSw)
                go_simp
              try simp only [Act.put, List.setIfInBounds_toArray, List.set_cons_zero, List.set_cons_succ]
              refine wpAnyH_take (i := 24) (oi := { dst := some 41, op := Op.pick (Operand.tmp 23) (Operand.const (Value.bool true)) (Operand.tmp 40), type := 4, pos := "ref.go:281", after := #[{ on := 6, ground := Ground.data }, { on := 23, ground := Ground.data }], guard := none }) (v := .bool false) rfl (by kernel_rfl) (by kernel_rfl) (by kernel_rfl) (fun _ _ _ h => h) (Or.inl ⟨by rfl, fun w hSw => ?_⟩) (by assumption) ?_
              · (try dsimp only at hSw)
                go_simp
              try simp only [Act.put, List.setIfInBounds_toArray, List.set_cons_zero, List.set_cons_succ]
              refine wpAnyH_take (i := 25) (oi := { dst := some 42, op := Op.move (Operand.tmp 41), type := 4, pos := "ref.go:281", after := #[{ on := 24, ground := Ground.data }, { on := 9, ground := Ground.chain }], guard := none }) (v := .bool false) rfl (by kernel_rfl) (by kernel_rfl) (by kernel_rfl) (fun _ _ _ h => h) (Or.inl ⟨by rfl, fun w hSw => ?_⟩) (by assumption) ?_
              · (try dsimp only at hSw)
                go_simp
              try simp only [Act.put, List.setIfInBounds_toArray, List.set_cons_zero, List.set_cons_succ]
              refine wpAnyH_take (i := 26) (oi := { dst := some 43, op := Op.move (Operand.tmp 1), type := 22, pos := "ref.go:281", after := #[{ on := 25, ground := Ground.guard }], guard := some (25, false) }) (v := .slice (some ⟨g, o, none⟩) m c2) rfl (by kernel_rfl) (by kernel_rfl) (by kernel_rfl) (fun _ _ _ h => h) (Or.inl ⟨by rfl, fun w hSw => ?_⟩) (by assumption) ?_
              · (try dsimp only at hSw)
                go_simp
              try simp only [Act.put, List.setIfInBounds_toArray, List.set_cons_zero, List.set_cons_succ]
              refine wpAnyH_take (i := 27) (oi := { dst := some 44, op := Op.move (Operand.tmp 7), type := 3, pos := "ref.go:281", after := #[{ on := 25, ground := Ground.guard }], guard := some (25, false) }) (v := .int .i64 0) rfl (by kernel_rfl) (by kernel_rfl) (by kernel_rfl) (fun _ _ _ h => h) (Or.inl ⟨by rfl, fun w hSw => ?_⟩) (by assumption) ?_
              · (try dsimp only at hSw)
                go_simp
              try simp only [Act.put, List.setIfInBounds_toArray, List.set_cons_zero, List.set_cons_succ]
              refine wpAnyH_take (i := 28) (oi := { dst := some 45, op := Op.indexAddr 22 (Operand.tmp 43) (Operand.tmp 44), type := 0, pos := "ref.go:281", after := #[{ on := 26, ground := Ground.data }, { on := 27, ground := Ground.data }, { on := 25, ground := Ground.guard }], guard := some (25, false) }) (v := .pointer (some ⟨g, o, none⟩)) rfl (by kernel_rfl) (by kernel_rfl) (by kernel_rfl) (fun _ _ _ h => h) (Or.inl ⟨by rfl, fun w hSw => ?_⟩) (by assumption) ?_
              · (try dsimp only at hSw)
                go_simp
              try simp only [Act.put, List.setIfInBounds_toArray, List.set_cons_zero, List.set_cons_succ]
              refine wpAnyH_take (i := 29) (oi := { dst := some 46, op := Op.fieldAddr 41 (Operand.tmp 45) 0, type := 0, pos := "ref.go:281", after := #[{ on := 28, ground := Ground.data }, { on := 25, ground := Ground.guard }], guard := some (25, false) }) (v := .pointer (some ⟨g, o, none⟩)) rfl (by kernel_rfl) (by kernel_rfl) (by kernel_rfl) (fun _ _ _ h => h) (Or.inl ⟨by rfl, fun w hSw => ?_⟩) (by assumption) ?_
              · (try dsimp only at hSw)
                go_simp
              try simp only [Act.put, List.setIfInBounds_toArray, List.set_cons_zero, List.set_cons_succ]
              refine wpAnyH_take (i := 30) (oi := { dst := some 47, op := Op.load 2 (Operand.tmp 46), type := 2, pos := "ref.go:281", after := #[{ on := 29, ground := Ground.data }, { on := 25, ground := Ground.guard }], guard := some (25, false) }) (v := .int .i64 ex) rfl (by kernel_rfl) (by kernel_rfl) (by kernel_rfl) (fun _ _ _ h => h) (Or.inl ⟨by rfl, fun w hSw => ?_⟩) (by assumption) ?_
              · (try dsimp only at hSw)
                have q0 := (hSw.cell (p := ⟨g, o, none⟩) hgz).trans c0
                go_simp
              try simp only [Act.put, List.setIfInBounds_toArray, List.set_cons_zero, List.set_cons_succ]
              refine wpAnyH_take (i := 31) (oi := { dst := some 48, op := Op.fieldAddr 38 (Operand.tmp 6) 1, type := 0, pos := "ref.go:281", after := #[{ on := 25, ground := Ground.guard }], guard := some (25, false) }) (v := .pointer (some ⟨b + 2, 2, none⟩)) rfl (by kernel_rfl) (by kernel_rfl) (by kernel_rfl) (fun _ _ _ h => h) (Or.inl ⟨by rfl, fun w hSw => ?_⟩) (by assumption) ?_
              · (try dsimp only at hSw)
                go_simp
              try simp only [Act.put, List.setIfInBounds_toArray, List.set_cons_zero, List.set_cons_succ]
              refine wpAnyH_take (i := 32) (oi := { dst := some 49, op := Op.fieldAddr 33 (Operand.tmp 48) 0, type := 0, pos := "ref.go:281", after := #[{ on := 31, ground := Ground.data }, { on := 25, ground := Ground.guard }], guard := some (25, false) }) (v := .pointer (some ⟨b + 2, 2, none⟩)) rfl (by kernel_rfl) (by kernel_rfl) (by kernel_rfl) (fun _ _ _ h => h) (Or.inl ⟨by rfl, fun w hSw => ?_⟩) (by assumption) ?_
              · (try dsimp only at hSw)
                go_simp
              try simp only [Act.put, List.setIfInBounds_toArray, List.set_cons_zero, List.set_cons_succ]
              refine wpAnyH_take (i := 33) (oi := { dst := some 50, op := Op.load 2 (Operand.tmp 49), type := 2, pos := "ref.go:281", after := #[{ on := 32, ground := Ground.data }, { on := 25, ground := Ground.guard }], guard := some (25, false) }) (v := .int .i64 ix) rfl (by kernel_rfl) (by kernel_rfl) (by kernel_rfl) (fun _ _ _ h => h) (Or.inl ⟨by rfl, fun w hSw => ?_⟩) (by assumption) ?_
              · (try dsimp only at hSw)
                have q0 := (hSw.cell (p := ⟨b + 2, 2, none⟩) hxz).trans x3
                go_simp
              try simp only [Act.put, List.setIfInBounds_toArray, List.set_cons_zero, List.set_cons_succ]
              refine wpAnyH_take (i := 34) (oi := { dst := some 51, op := Op.binOp BinOp.leq 2 (Operand.tmp 47) (Operand.tmp 50) 2, type := 4, pos := "ref.go:281", after := #[{ on := 30, ground := Ground.data }, { on := 33, ground := Ground.data }, { on := 25, ground := Ground.guard }], guard := some (25, false) }) (v := .bool false) rfl (by kernel_rfl) (by kernel_rfl) (by kernel_rfl) (fun _ _ _ h => h) (Or.inl ⟨by rfl, fun w hSw => ?_⟩) (by assumption) ?_
              · (try dsimp only at hSw)
                go_simp
              try simp only [Act.put, List.setIfInBounds_toArray, List.set_cons_zero, List.set_cons_succ]
              refine wpAnyH_take (i := 35) (oi := { dst := some 52, op := Op.pick (Operand.tmp 42) (Operand.const (Value.bool true)) (Operand.tmp 51), type := 4, pos := "ref.go:281", after := #[{ on := 25, ground := Ground.data }, { on := 34, ground := Ground.data }], guard := none }) (v := .bool false) rfl (by kernel_rfl) (by kernel_rfl) (by kernel_rfl) (fun _ _ _ h => h) (Or.inl ⟨by rfl, fun w hSw => ?_⟩) (by assumption) ?_
              · (try dsimp only at hSw)
                go_simp
              try simp only [Act.put, List.setIfInBounds_toArray, List.set_cons_zero, List.set_cons_succ]
              refine wpAnyH_take (i := 36) (oi := { dst := some 53, op := Op.move (Operand.tmp 52), type := 4, pos := "ref.go:281", after := #[{ on := 35, ground := Ground.data }, { on := 25, ground := Ground.chain }], guard := none }) (v := .bool false) rfl (by kernel_rfl) (by kernel_rfl) (by kernel_rfl) (fun _ _ _ h => h) (Or.inl ⟨by rfl, fun w hSw => ?_⟩) (by assumption) ?_
              · (try dsimp only at hSw)
                go_simp
              try simp only [Act.put, List.setIfInBounds_toArray, List.set_cons_zero, List.set_cons_succ]
              refine wpAnyH_take (i := 37) (oi := { dst := some 54, op := Op.move (Operand.tmp 1), type := 22, pos := "ref.go:281", after := #[{ on := 36, ground := Ground.guard }], guard := some (36, false) }) (v := .slice (some ⟨g, o, none⟩) m c2) rfl (by kernel_rfl) (by kernel_rfl) (by kernel_rfl) (fun _ _ _ h => h) (Or.inl ⟨by rfl, fun w hSw => ?_⟩) (by assumption) ?_
              · (try dsimp only at hSw)
                go_simp
              try simp only [Act.put, List.setIfInBounds_toArray, List.set_cons_zero, List.set_cons_succ]
              refine wpAnyH_take (i := 38) (oi := { dst := some 55, op := Op.move (Operand.tmp 7), type := 3, pos := "ref.go:281", after := #[{ on := 36, ground := Ground.guard }], guard := some (36, false) }) (v := .int .i64 0) rfl (by kernel_rfl) (by kernel_rfl) (by kernel_rfl) (fun _ _ _ h => h) (Or.inl ⟨by rfl, fun w hSw => ?_⟩) (by assumption) ?_
              · (try dsimp only at hSw)
                go_simp
              try simp only [Act.put, List.setIfInBounds_toArray, List.set_cons_zero, List.set_cons_succ]
              refine wpAnyH_take (i := 39) (oi := { dst := some 56, op := Op.indexAddr 22 (Operand.tmp 54) (Operand.tmp 55), type := 0, pos := "ref.go:281", after := #[{ on := 37, ground := Ground.data }, { on := 38, ground := Ground.data }, { on := 36, ground := Ground.guard }], guard := some (36, false) }) (v := .pointer (some ⟨g, o, none⟩)) rfl (by kernel_rfl) (by kernel_rfl) (by kernel_rfl) (fun _ _ _ h => h) (Or.inl ⟨by rfl, fun w hSw => ?_⟩) (by assumption) ?_
              · (try dsimp only at hSw)
                go_simp
              try simp only [Act.put, List.setIfInBounds_toArray, List.set_cons_zero, List.set_cons_succ]
              refine wpAnyH_take (i := 40) (oi := { dst := some 57, op := Op.fieldAddr 41 (Operand.tmp 56) 0, type := 0, pos := "ref.go:281", after := #[{ on := 39, ground := Ground.data }, { on := 36, ground := Ground.guard }], guard := some (36, false) }) (v := .pointer (some ⟨g, o, none⟩)) rfl (by kernel_rfl) (by kernel_rfl) (by kernel_rfl) (fun _ _ _ h => h) (Or.inl ⟨by rfl, fun w hSw => ?_⟩) (by assumption) ?_
              · (try dsimp only at hSw)
                go_simp
              try simp only [Act.put, List.setIfInBounds_toArray, List.set_cons_zero, List.set_cons_succ]
              refine wpAnyH_take (i := 41) (oi := { dst := some 58, op := Op.load 2 (Operand.tmp 57), type := 2, pos := "ref.go:281", after := #[{ on := 40, ground := Ground.data }, { on := 36, ground := Ground.guard }], guard := some (36, false) }) (v := .int .i64 ex) rfl (by kernel_rfl) (by kernel_rfl) (by kernel_rfl) (fun _ _ _ h => h) (Or.inl ⟨by rfl, fun w hSw => ?_⟩) (by assumption) ?_
              · (try dsimp only at hSw)
                have q0 := (hSw.cell (p := ⟨g, o, none⟩) hgz).trans c0
                go_simp
              try simp only [Act.put, List.setIfInBounds_toArray, List.set_cons_zero, List.set_cons_succ]
              refine wpAnyH_take (i := 42) (oi := { dst := some 59, op := Op.load 38 (Operand.tmp 6), type := 38, pos := "ref.go:281", after := #[{ on := 36, ground := Ground.guard }], guard := some (36, false) }) (v := .agg #[.int .i64 ht, .int .i64 hv, .int .i64 ix, .int .i64 st, .string cf, .string dt, .slice Ax nx cx]) rfl (by kernel_rfl) (by kernel_rfl) (by kernel_rfl) (fun _ _ _ h => h) (Or.inl ⟨by rfl, fun w hSw => ?_⟩) (by assumption) ?_
              · (try dsimp only at hSw)
                have q0 := (hSw.cell (p := ⟨b + 2, 0, none⟩) hxz).trans y0
                have q1 := (hSw.cell (p := ⟨b + 2, 1, none⟩) hxz).trans y1
                have q2 := (hSw.cell (p := ⟨b + 2, 2, none⟩) hxz).trans y2
                have q3 := (hSw.cell (p := ⟨b + 2, 3, none⟩) hxz).trans y3
                have q4 := (hSw.cell (p := ⟨b + 2, 4, none⟩) hxz).trans y4
                have q5 := (hSw.cell (p := ⟨b + 2, 5, none⟩) hxz).trans y5
                have q6 := (hSw.cell (p := ⟨b + 2, 6, none⟩) hxz).trans y6
                go_simp
              try simp only [Act.put, List.setIfInBounds_toArray, List.set_cons_zero, List.set_cons_succ]
              refine wpAnyH_ready (rs := [43]) (by kernel_rfl) (by simp) ?_
              refine AllReadyH.cons (o := { dst := some 60, op := Op.call { callee := Callee.value (Operand.func 23), args := #[Operand.tmp 59], argTypes := #[38] }, type := 2, pos := "ref.go:281", after := #[{ on := 42, ground := Ground.data }, { on := 36, ground := Ground.chain }, { on := 36, ground := Ground.guard }], guard := some (36, false) }) rfl (fun K hK => ?_) AllReadyH.nil
              go_simp
              go_at_call 23
              refine (rlastS_any ht hv ix st cf dt Ax nx cx _ h0 h1 (by omega)).mono ?_
              rintro e wc ⟨rfl, h⟩
              have hSc : Below zs wr wc := hSb.trans (h.mono (by rw [← HZS.out]; exact hSb.size))
              clear h
              refine hK.out _ _ ?_ (fun hHeld => ?_)
              · exact hSc
              clear hK K
              try simp only [Act.put, List.setIfInBounds_toArray, List.set_cons_zero, List.set_cons_succ]
              refine wpAnyH_take (i := 44) (oi := { dst := some 61, op := Op.binOp BinOp.add 2 (Operand.tmp 60) (Operand.const (Value.int IntKind.i64 1)) 2, type := 2, pos := "ref.go:281", after := #[{ on := 43, ground := Ground.data }, { on := 36, ground := Ground.guard }], guard := some (36, false) }) (v := .int .i64 (ix + (nx : Int) + 1)) rfl (by kernel_rfl) (by kernel_rfl) (by kernel_rfl) (fun _ _ _ h => h) (Or.inl ⟨by rfl, fun w hSw => ?_⟩) (by assumption) ?_
              · (try dsimp only at hSw)
                go_simp
              try simp only [Act.put, List.setIfInBounds_toArray, List.set_cons_zero, List.set_cons_succ]
              refine wpAnyH_take (i := 45) (oi := { dst := some 62, op := Op.binOp BinOp.gtr 2 (Operand.tmp 58) (Operand.tmp 61) 2, type := 4, pos := "ref.go:281", after := #[{ on := 41, ground := Ground.data }, { on := 44, ground := Ground.data }, { on := 36, ground := Ground.guard }], guard := some (36, false) }) (v := .bool false) rfl (by kernel_rfl) (by kernel_rfl) (by kernel_rfl) (fun _ _ _ h => h) (Or.inl ⟨by rfl, fun w hSw => ?_⟩) (by assumption) ?_
              · (try dsimp only at hSw)
                go_simp
              try simp only [Act.put, List.setIfInBounds_toArray, List.set_cons_zero, List.set_cons_succ]
              refine wpAnyH_take (i := 46) (oi := { dst := some 63, op := Op.pick (Operand.tmp 53) (Operand.const (Value.bool true)) (Operand.tmp 62), type := 4, pos := "ref.go:281", after := #[{ on := 36, ground := Ground.data }, { on := 45, ground := Ground.data }], guard := none }) (v := .bool false) rfl (by kernel_rfl) (by kernel_rfl) (by kernel_rfl) (fun _ _ _ h => h) (Or.inl ⟨by rfl, fun w hSw => ?_⟩) (by assumption) ?_
              · (try dsimp only at hSw)
                go_simp
              try simp only [Act.put, List.setIfInBounds_toArray, List.set_cons_zero, List.set_cons_succ]
              refine wpAnyH_done (by kernel_rfl) ?_ _
              refine NoPanic.normal ?_
              clear hwx
              obtain ⟨q, hq, hex, hwn⟩ := HWS.out.first (by rw [← HML.out]; exact hlt) (by rw [HEJ.out]; exact HBM.out) (by rw [HEJ.out, ← HK.out]; show ix < ex; omega) (by rw [HEJ.out, ← HK.out]; have := HNX0.out; show ex ≤ ix + (lg.length : Int) + 1; omega)
              rw [HEJ.out] at hex hwn
              rw [← HK.out] at hex
              simp only at hex
              have HWN2 := Lib.hid hwn
              have HEX2 := Lib.hid hex
              clear hex hwn
              go_wp2_with fail
              have hSd : Below zs wr wc.drew := hSc.drew
              refine wp_region_noPanic ?_
              refine wp_region_held_drew (S := fun W => Below zs wr W) (by kernel_rfl) ?_ (fun hHeld => ?_)
              · exact hSd
              generalize wc.drew = wd at *
              refine wpAnyH_take (i := 0) (oi := { dst := some 66, op := Op.load 38 (Operand.tmp 6), type := 38, pos := "ref.go:284", after := #[], guard := none }) (v := .agg #[.int .i64 ht, .int .i64 hv, .int .i64 ix, .int .i64 st, .string cf, .string dt, .slice Ax nx cx]) rfl (by kernel_rfl) (by kernel_rfl) (by kernel_rfl) (fun _ _ _ h => h) (Or.inl ⟨by rfl, fun w hSw => ?_⟩) (by assumption) ?_
              · (try dsimp only at hSw)
                have q0 := (hSw.cell (p := ⟨b + 2, 0, none⟩) hxz).trans y0
                have q1 := (hSw.cell (p := ⟨b + 2, 1, none⟩) hxz).trans y1
                have q2 := (hSw.cell (p := ⟨b + 2, 2, none⟩) hxz).trans y2
                have q3 := (hSw.cell (p := ⟨b + 2, 3, none⟩) hxz).trans y3
                have q4 := (hSw.cell (p := ⟨b + 2, 4, none⟩) hxz).trans y4
                have q5 := (hSw.cell (p := ⟨b + 2, 5, none⟩) hxz).trans y5
                have q6 := (hSw.cell (p := ⟨b + 2, 6, none⟩) hxz).trans y6
                go_simp
              try simp only [Act.put, List.setIfInBounds_toArray, List.set_cons_zero, List.set_cons_succ]
              refine wpAnyH_take (i := 1) (oi := { dst := some 67, op := Op.move (Operand.tmp 1), type := 22, pos := "ref.go:284", after := #[], guard := none }) (v := .slice (some ⟨g, o, none⟩) m c2) rfl (by kernel_rfl) (by kernel_rfl) (by kernel_rfl) (fun _ _ _ h => h) (Or.inl ⟨by rfl, fun w hSw => ?_⟩) (by assumption) ?_
              · (try dsimp only at hSw)
                go_simp
              try simp only [Act.put, List.setIfInBounds_toArray, List.set_cons_zero, List.set_cons_succ]
              refine wpAnyH_take (i := 2) (oi := { dst := some 68, op := Op.move (Operand.tmp 7), type := 3, pos := "ref.go:284", after := #[], guard := none }) (v := .int .i64 0) rfl (by kernel_rfl) (by kernel_rfl) (by kernel_rfl) (fun _ _ _ h => h) (Or.inl ⟨by rfl, fun w hSw => ?_⟩) (by assumption) ?_
              · (try dsimp only at hSw)
                go_simp
              try simp only [Act.put, List.setIfInBounds_toArray, List.set_cons_zero, List.set_cons_succ]
              refine wpAnyH_take (i := 3) (oi := { dst := some 69, op := Op.indexAddr 22 (Operand.tmp 67) (Operand.tmp 68), type := 0, pos := "ref.go:284", after := #[{ on := 1, ground := Ground.data }, { on := 2, ground := Ground.data }], guard := none }) (v := .pointer (some ⟨g, o, none⟩)) rfl (by kernel_rfl) (by kernel_rfl) (by kernel_rfl) (fun _ _ _ h => h) (Or.inl ⟨by rfl, fun w hSw => ?_⟩) (by assumption) ?_
              · (try dsimp only at hSw)
                go_simp
              try simp only [Act.put, List.setIfInBounds_toArray, List.set_cons_zero, List.set_cons_succ]
              refine wpAnyH_take (i := 4) (oi := { dst := some 70, op := Op.load 41 (Operand.tmp 69), type := 41, pos := "ref.go:284", after := #[{ on := 3, ground := Ground.data }], guard := none }) (v := .agg #[.int .i64 ex, .int .i64 et, .int .i64 kd, .string ed]) rfl (by kernel_rfl) (by kernel_rfl) (by kernel_rfl) (fun _ _ _ h => h) (Or.inl ⟨by rfl, fun w hSw => ?_⟩) (by assumption) ?_
              · (try dsimp only at hSw)
                have q0 := (hSw.cell (p := ⟨g, o, none⟩) hgz).trans c0
                have q1 := (hSw.cell (p := ⟨g, o + 1, none⟩) hgz).trans c1
                have q2 := (hSw.cell (p := ⟨g, o + 2, none⟩) hgz).trans c2'
                have q3 := (hSw.cell (p := ⟨g, o + 3, none⟩) hgz).trans c3
                go_simp
              try simp only [Act.put, List.setIfInBounds_toArray, List.set_cons_zero, List.set_cons_succ]
              refine wpAnyH_ready (rs := [5, 9]) (by kernel_rfl) (by simp) ?_
              refine AllReadyH.cons (o := { dst := some 71, op := Op.call { callee := Callee.value (Operand.func 24), args := #[Operand.tmp 66, Operand.tmp 70], argTypes := #[38, 41] }, type := 69, pos := "ref.go:284", after := #[{ on := 0, ground := Ground.data }, { on := 4, ground := Ground.data }], guard := none }) rfl (fun K hK => ?_) (AllReadyH.cons (o := { dst := some 8, op := Op.alloc 38, type := 0, pos := "ref.go:284", after := #[], guard := none }) rfl (fun K hK => ?_) AllReadyH.nil)
              · go_simp
                go_at_call 24
                refine (rputS_any ht hv ix st cf dt (fun j => (N j ∧ j < b) ∨ b + 3 ≤ j) Ax nx cx Lx ex et kd ed _ (HEX.out.below (by rw [HZS.out]; exact hSd)) h0 h1 (by omega) q (by rw [HNX.out]; exact hq) HEX2.out).mono ?_
                rintro e we ⟨vv, rfl, hvv, h⟩
                obtain ⟨Av, cv, hvs⟩ := hvv.slice
                obtain ⟨mv, hmv⟩ : ∃ mv, (Lx.take q ++ [(⟨ex, et, kd, ed⟩ : Ent)]).length = mv := ⟨_, rfl⟩
                rw [hmv] at hvs
                subst hvs
                obtain ⟨bq, hbq⟩ : ∃ bq, decide (q + 1 ≤ 200) = bq := ⟨_, rfl⟩
                rw [hbq]
                replace hvv : OwnEn zs _ _ we := hvv.down (by rw [← HZS.out]; exact hSd.size)
                have hSe : Below zs wr we := hSd.trans (h.mono (by rw [← HZS.out]; exact hSd.size))
                clear h hmv hbq
                refine hK.out _ _ ?_ (fun hHeld => ?_)
                · exact hSe
                clear hK K
                try simp only [Act.put, List.setIfInBounds_toArray, List.set_cons_zero, List.set_cons_succ]
                refine wpAnyH_take (i := 6) (oi := { dst := some 65, op := Op.move (Operand.tmp 71), type := 69, pos := "ref.go:284", after := #[{ on := 5, ground := Ground.data }], guard := none }) (v := .tuple #[.agg #[.int .i64 ht, .int .i64 hv, .int .i64 ix, .int .i64 st, .string cf, .string dt, .slice Av mv cv], .bool bq]) rfl (by kernel_rfl) (by kernel_rfl) (by kernel_rfl) (fun _ _ _ h => h) (Or.inl ⟨by rfl, fun w hSw => ?_⟩) (by assumption) ?_
                · (try dsimp only at hSw)
                  go_simp
                try simp only [Act.put, List.setIfInBounds_toArray, List.set_cons_zero, List.set_cons_succ]
                refine wpAnyH_take (i := 7) (oi := { dst := some 72, op := Op.extract (Operand.tmp 65) 0, type := 38, pos := "ref.go:284", after := #[{ on := 6, ground := Ground.data }], guard := none }) (v := .agg #[.int .i64 ht, .int .i64 hv, .int .i64 ix, .int .i64 st, .string cf, .string dt, .slice Av mv cv]) rfl (by kernel_rfl) (by kernel_rfl) (by kernel_rfl) (fun _ _ _ h => h) (Or.inl ⟨by rfl, fun w hSw => ?_⟩) (by assumption) ?_
                · (try dsimp only at hSw)
                  go_simp
                try simp only [Act.put, List.setIfInBounds_toArray, List.set_cons_zero, List.set_cons_succ]
                refine wpAnyH_take (i := 8) (oi := { dst := some 73, op := Op.extract (Operand.tmp 65) 1, type := 4, pos := "ref.go:284", after := #[{ on := 6, ground := Ground.data }, { on := 10, ground := Ground.gcOnly Departure.lateStores }], guard := none }) (v := .bool bq) rfl (by kernel_rfl) (by kernel_rfl) (by kernel_rfl) (fun _ _ _ h => h) (Or.inl ⟨by rfl, fun w hSw => ?_⟩) (by assumption) ?_
                · (try dsimp only at hSw)
                  go_simp
                try simp only [Act.put, List.setIfInBounds_toArray, List.set_cons_zero, List.set_cons_succ]
                refine wpAnyH_ready (rs := [9]) (by kernel_rfl) (by simp) ?_
                refine AllReadyH.cons (o := { dst := some 8, op := Op.alloc 38, type := 0, pos := "ref.go:284", after := #[], guard := none }) rfl (fun K hK => ?_) AllReadyH.nil
                go_simp
                obtain ⟨wf, hwfe⟩ : ∃ W9, we.alloc (.cells #[.int .i64 0, .int .i64 0, .int .i64 0, .int .i64 0, .string ⟨#[]⟩, .string ⟨#[]⟩, .slice none 0 0] 38) = W9 := ⟨_, rfl⟩
                obtain ⟨nb, hnb⟩ : ∃ nb, we.heap.size = nb := ⟨_, rfl⟩
                have h : Below we.heap.size we wf := by rw [← hwfe]; exact below_new _ _
                have hnbr : Rt wf nb 38 [.int .i64 0, .int .i64 0, .int .i64 0, .int .i64 0, .string ⟨#[]⟩, .string ⟨#[]⟩, .slice none 0 0] := by rw [← hwfe, ← hnb]; exact Rt.new _ _ _
                have hSf : Below zs wr wf := hSe.trans (h.mono (by rw [← HZS.out]; exact hSe.size))
                have hnz : zs ≤ nb := by rw [← hnb, ← HZS.out]; exact hSe.size
                replace hvv := hvv.below h
                rw [hwfe, hnb]
                clear h hwfe hnb
                refine hK.out _ _ ?_ (fun hHeld => ?_)
                · exact hSf
                clear hK K
                try simp only [Act.put, List.setIfInBounds_toArray, List.set_cons_zero, List.set_cons_succ]
                have d0 := hnbr.cell (j := 0) rfl
                have e0 := hnbr.frz 0
                have d1 := hnbr.cell (j := 1) rfl
                have e1 := hnbr.frz 1
                have d2 := hnbr.cell (j := 2) rfl
                have e2 := hnbr.frz 2
                have d3 := hnbr.cell (j := 3) rfl
                have e3 := hnbr.frz 3
                have d4 := hnbr.cell (j := 4) rfl
                have e4 := hnbr.frz 4
                have d5 := hnbr.cell (j := 5) rfl
                have e5 := hnbr.frz 5
                have d6 := hnbr.cell (j := 6) rfl
                have e6 := hnbr.frz 6
                have hB9 := (((((((hSf.setCell (p := ⟨nb, 0, none⟩) hnz (.int .i64 ht)).setCell (p := ⟨nb, 1, none⟩) hnz (.int .i64 hv)).setCell (p := ⟨nb, 2, none⟩) hnz (.int .i64 ix)).setCell (p := ⟨nb, 3, none⟩) hnz (.int .i64 st)).setCell (p := ⟨nb, 4, none⟩) hnz (.string cf)).setCell (p := ⟨nb, 5, none⟩) hnz (.string dt)).setCell (p := ⟨nb, 6, none⟩) hnz (.slice Av mv cv))
                have hy9 := (((((((hnbr.set 0 (.int .i64 ht)).set 1 (.int .i64 hv)).set 2 (.int .i64 ix)).set 3 (.int .i64 st)).set 4 (.string cf)).set 5 (.string dt)).set 6 (.slice Av mv cv))
                have HV9 := Lib.hid (show OwnEn zs (.slice Av mv cv) _ (((((((wf.setCell ⟨nb, 0, none⟩ (.int .i64 ht)).setCell ⟨nb, 1, none⟩ (.int .i64 hv)).setCell ⟨nb, 2, none⟩ (.int .i64 ix)).setCell ⟨nb, 3, none⟩ (.int .i64 st)).setCell ⟨nb, 4, none⟩ (.string cf)).setCell ⟨nb, 5, none⟩ (.string dt)).setCell ⟨nb, 6, none⟩ (.slice Av mv cv)) from ownsRow_setb hvv hnbr (by decide) _ _ _ _ _ _ _)
                refine wpAnyH_ready (rs := [10]) (by kernel_rfl) (by simp) ?_
                refine AllReadyH.cons (o := { dst := none, op := Op.store 38 (Operand.tmp 8) (Operand.tmp 72), type := 0, pos := "ref.go:284", after := #[{ on := 9, ground := Ground.data }, { on := 7, ground := Ground.data }, { on := 5, ground := Ground.chain }, { on := 0, ground := Ground.phase }, { on := 1, ground := Ground.phase }, { on := 2, ground := Ground.phase }, { on := 3, ground := Ground.phase }, { on := 4, ground := Ground.phase }, { on := 5, ground := Ground.phase }, { on := 6, ground := Ground.phase }, { on := 7, ground := Ground.phase }, { on := 8, ground := Ground.textOnly Departure.lateStores }, { on := 9, ground := Ground.phase }], guard := none }) rfl (fun K hK => ?_) AllReadyH.nil
                go_simp
                obtain ⟨w9, hw9⟩ : ∃ w9, (((((((wf.setCell ⟨nb, 0, none⟩ (.int .i64 ht)).setCell ⟨nb, 1, none⟩ (.int .i64 hv)).setCell ⟨nb, 2, none⟩ (.int .i64 ix)).setCell ⟨nb, 3, none⟩ (.int .i64 st)).setCell ⟨nb, 4, none⟩ (.string cf)).setCell ⟨nb, 5, none⟩ (.string dt)).setCell ⟨nb, 6, none⟩ (.slice Av mv cv)) = w9 := ⟨_, rfl⟩
                rw [hw9] at hB9 hy9 HV9 ⊢
                simp only [List.set_cons_zero, List.set_cons_succ] at hy9
                refine hK.out _ _ ?_ (fun hHeld => ?_)
                · exact hB9
                clear hK K hw9 d0 e0 d1 e1 d2 e2 d3 e3 d4 e4 d5 e5 d6 e6 hvv
                try simp only [Act.put, List.setIfInBounds_toArray, List.set_cons_zero, List.set_cons_succ]
                refine wpAnyH_take (i := 11) (oi := { dst := some 9, op := Op.assign (Operand.tmp 73), type := 4, pos := "ref.go:284", after := #[{ on := 8, ground := Ground.data }, { on := 10, ground := Ground.chain }, { on := 0, ground := Ground.phase }, { on := 1, ground := Ground.phase }, { on := 2, ground := Ground.phase }, { on := 3, ground := Ground.phase }, { on := 4, ground := Ground.phase }, { on := 5, ground := Ground.phase }, { on := 6, ground := Ground.phase }, { on := 7, ground := Ground.phase }, { on := 8, ground := Ground.phase }, { on := 9, ground := Ground.phase }, { on := 10, ground := Ground.phase }], guard := none }) (v := .bool bq) rfl (by kernel_rfl) (by kernel_rfl) (by kernel_rfl) (fun _ _ _ h => h) (Or.inl ⟨by rfl, fun w hSw => ?_⟩) (by assumption) ?_
                · (try dsimp only at hSw)
                  go_simp
                try simp only [Act.put, List.setIfInBounds_toArray, List.set_cons_zero, List.set_cons_succ]
                refine wpAnyH_done (by kernel_rfl) ?_ _
                refine NoPanic.normal ?_
                have hx9 := HX.out.below (by rw [HZS.out]; exact hB9)
                have hs9 := HS.out.below (by rw [HZS.out]; exact hB9)
                have hr9 := HRR2.out.below (by rw [HZS.out]; exact hB9)
                have u0 := hy9.cell (j := 0) rfl
                have u1 := hy9.cell (j := 1) rfl
                have u2 := hy9.cell (j := 2) rfl
                have u3 := hy9.cell (j := 3) rfl
                have u4 := hy9.cell (j := 4) rfl
                have u5 := hy9.cell (j := 5) rfl
                have u6 := hy9.cell (j := 6) rfl
                have d0 := hx9.cell (j := 0) rfl
                have e0 := hx9.frz 0
                have d1 := hx9.cell (j := 1) rfl
                have e1 := hx9.frz 1
                have d2 := hx9.cell (j := 2) rfl
                have e2 := hx9.frz 2
                have d3 := hx9.cell (j := 3) rfl
                have e3 := hx9.frz 3
                have d4 := hx9.cell (j := 4) rfl
                have e4 := hx9.frz 4
                have d5 := hx9.cell (j := 5) rfl
                have e5 := hx9.frz 5
                have d6 := hx9.cell (j := 6) rfl
                have e6 := hx9.frz 6
                have hx8 := (((((((hx9.set 0 (.int .i64 ht)).set 1 (.int .i64 hv)).set 2 (.int .i64 ix)).set 3 (.int .i64 st)).set 4 (.string cf)).set 5 (.string dt)).set 6 (.slice Av mv cv))
                have hs8 := hs9
                have hr8 := hr9
                replace hs8 := hs8.other 0 (.int .i64 ht) (g' := b + 2) (by omega)
                replace hs8 := hs8.other 1 (.int .i64 hv) (g' := b + 2) (by omega)
                replace hs8 := hs8.other 2 (.int .i64 ix) (g' := b + 2) (by omega)
                replace hs8 := hs8.other 3 (.int .i64 st) (g' := b + 2) (by omega)
                replace hs8 := hs8.other 4 (.string cf) (g' := b + 2) (by omega)
                replace hs8 := hs8.other 5 (.string dt) (g' := b + 2) (by omega)
                replace hs8 := hs8.other 6 (.slice Av mv cv) (g' := b + 2) (by omega)
                replace hr8 := hr8.other 0 (.int .i64 ht) (g' := b + 2) (by omega)
                replace hr8 := hr8.other 1 (.int .i64 hv) (g' := b + 2) (by omega)
                replace hr8 := hr8.other 2 (.int .i64 ix) (g' := b + 2) (by omega)
                replace hr8 := hr8.other 3 (.int .i64 st) (g' := b + 2) (by omega)
                replace hr8 := hr8.other 4 (.string cf) (g' := b + 2) (by omega)
                replace hr8 := hr8.other 5 (.string dt) (g' := b + 2) (by omega)
                replace hr8 := hr8.other 6 (.slice Av mv cv) (g' := b + 2) (by omega)
                have hB8 := ((((((((HBw.out.trans (hB9.mono (by omega))).setCell (p := ⟨(b + 2), 0, none⟩) (Nat.le_add_right b 2) (.int .i64 ht)).setCell (p := ⟨(b + 2), 1, none⟩) (Nat.le_add_right b 2) (.int .i64 hv)).setCell (p := ⟨(b + 2), 2, none⟩) (Nat.le_add_right b 2) (.int .i64 ix)).setCell (p := ⟨(b + 2), 3, none⟩) (Nat.le_add_right b 2) (.int .i64 st)).setCell (p := ⟨(b + 2), 4, none⟩) (Nat.le_add_right b 2) (.string cf)).setCell (p := ⟨(b + 2), 5, none⟩) (Nat.le_add_right b 2) (.string dt)).setCell (p := ⟨(b + 2), 6, none⟩) (Nat.le_add_right b 2) (.slice Av mv cv))
                have HV8 := Lib.hid (show OwnEn zs (.slice Av mv cv) _ (((((((w9.setCell ⟨(b + 2), 0, none⟩ (.int .i64 ht)).setCell ⟨(b + 2), 1, none⟩ (.int .i64 hv)).setCell ⟨(b + 2), 2, none⟩ (.int .i64 ix)).setCell ⟨(b + 2), 3, none⟩ (.int .i64 st)).setCell ⟨(b + 2), 4, none⟩ (.string cf)).setCell ⟨(b + 2), 5, none⟩ (.string dt)).setCell ⟨(b + 2), 6, none⟩ (.slice Av mv cv)) from ownsRow_setb HV9.out hx9 (by decide) _ _ _ _ _ _ _)
                obtain ⟨w8, hw8⟩ : ∃ w8, (((((((w9.setCell ⟨(b + 2), 0, none⟩ (.int .i64 ht)).setCell ⟨(b + 2), 1, none⟩ (.int .i64 hv)).setCell ⟨(b + 2), 2, none⟩ (.int .i64 ix)).setCell ⟨(b + 2), 3, none⟩ (.int .i64 st)).setCell ⟨(b + 2), 4, none⟩ (.string cf)).setCell ⟨(b + 2), 5, none⟩ (.string dt)).setCell ⟨(b + 2), 6, none⟩ (.slice Av mv cv)) = w8 := ⟨_, rfl⟩
                rw [hw8] at hx8 hs8 hr8 hB8 HV8
                simp only [List.set_cons_zero, List.set_cons_succ] at hx8
                have HX8 := Lib.hid hx8
                have HS8 := Lib.hid hs8
                have HR8 := Lib.hid hr8
                have HB8 := Lib.hid hB8
                clear hx8 hs8 hr8 hB8 hx9 hs9 hr9 hy9 hB9 hHeld
                go_wp2
                go_roundw
                case rel => exact ⟨0 + 1, Av, mv, cv, _, by go_num, by omega, HS8.out, HR8.out, HX8.out, (Ens.of_own HV8.out).mono (fun j hj _ => .inr (by have := (HV8.out.lt j hj).1; omega)), HWN2.out, HB8.out⟩
                case measure => simp [intOf]; omega
              · go_simp
                obtain ⟨we, hwee⟩ : ∃ W9, wd.alloc (.cells #[.int .i64 0, .int .i64 0, .int .i64 0, .int .i64 0, .string ⟨#[]⟩, .string ⟨#[]⟩, .slice none 0 0] 38) = W9 := ⟨_, rfl⟩
                obtain ⟨nb, hnb⟩ : ∃ nb, wd.heap.size = nb := ⟨_, rfl⟩
                have h : Below wd.heap.size wd we := by rw [← hwee]; exact below_new _ _
                have hnbr : Rt we nb 38 [.int .i64 0, .int .i64 0, .int .i64 0, .int .i64 0, .string ⟨#[]⟩, .string ⟨#[]⟩, .slice none 0 0] := by rw [← hwee, ← hnb]; exact Rt.new _ _ _
                have hSe : Below zs wr we := hSd.trans (h.mono (by rw [← HZS.out]; exact hSd.size))
                have hnz : zs ≤ nb := by rw [← hnb, ← HZS.out]; exact hSd.size
                rw [hwee, hnb]
                clear h hwee hnb
                refine hK.out _ _ ?_ (fun hHeld => ?_)
                · exact hSe
                clear hK K
                try simp only [Act.put, List.setIfInBounds_toArray, List.set_cons_zero, List.set_cons_succ]
                refine wpAnyH_ready (rs := [5]) (by kernel_rfl) (by simp) ?_
                refine AllReadyH.cons (o := { dst := some 71, op := Op.call { callee := Callee.value (Operand.func 24), args := #[Operand.tmp 66, Operand.tmp 70], argTypes := #[38, 41] }, type := 69, pos := "ref.go:284", after := #[{ on := 0, ground := Ground.data }, { on := 4, ground := Ground.data }], guard := none }) rfl (fun K hK => ?_) AllReadyH.nil
                go_simp
                go_at_call 24
                refine (rputS_any ht hv ix st cf dt (fun j => (N j ∧ j < b) ∨ b + 3 ≤ j) Ax nx cx Lx ex et kd ed _ (HEX.out.below (by rw [HZS.out]; exact hSe)) h0 h1 (by omega) q (by rw [HNX.out]; exact hq) HEX2.out).mono ?_
                rintro e wf ⟨vv, rfl, hvv, h⟩
                obtain ⟨Av, cv, hvs⟩ := hvv.slice
                obtain ⟨mv, hmv⟩ : ∃ mv, (Lx.take q ++ [(⟨ex, et, kd, ed⟩ : Ent)]).length = mv := ⟨_, rfl⟩
                rw [hmv] at hvs
                subst hvs
                obtain ⟨bq, hbq⟩ : ∃ bq, decide (q + 1 ≤ 200) = bq := ⟨_, rfl⟩
                rw [hbq]
                replace hvv : OwnEn zs _ _ wf := hvv.down (by rw [← HZS.out]; exact hSe.size)
                have hSf : Below zs wr wf := hSe.trans (h.mono (by rw [← HZS.out]; exact hSe.size))
                replace hnbr := hnbr.below h
                clear h hmv hbq
                refine hK.out _ _ ?_ (fun hHeld => ?_)
                · exact hSf
                clear hK K
                try simp only [Act.put, List.setIfInBounds_toArray, List.set_cons_zero, List.set_cons_succ]
                refine wpAnyH_take (i := 6) (oi := { dst := some 65, op := Op.move (Operand.tmp 71), type := 69, pos := "ref.go:284", after := #[{ on := 5, ground := Ground.data }], guard := none }) (v := .tuple #[.agg #[.int .i64 ht, .int .i64 hv, .int .i64 ix, .int .i64 st, .string cf, .string dt, .slice Av mv cv], .bool bq]) rfl (by kernel_rfl) (by kernel_rfl) (by kernel_rfl) (fun _ _ _ h => h) (Or.inl ⟨by rfl, fun w hSw => ?_⟩) (by assumption) ?_
                · (try dsimp only at hSw)
                  go_simp
                try simp only [Act.put, List.setIfInBounds_toArray, List.set_cons_zero, List.set_cons_succ]
                refine wpAnyH_take (i := 7) (oi := { dst := some 72, op := Op.extract (Operand.tmp 65) 0, type := 38, pos := "ref.go:284", after := #[{ on := 6, ground := Ground.data }], guard := none }) (v := .agg #[.int .i64 ht, .int .i64 hv, .int .i64 ix, .int .i64 st, .string cf, .string dt, .slice Av mv cv]) rfl (by kernel_rfl) (by kernel_rfl) (by kernel_rfl) (fun _ _ _ h => h) (Or.inl ⟨by rfl, fun w hSw => ?_⟩) (by assumption) ?_
                · (try dsimp only at hSw)
                  go_simp
                try simp only [Act.put, List.setIfInBounds_toArray, List.set_cons_zero, List.set_cons_succ]
                refine wpAnyH_take (i := 8) (oi := { dst := some 73, op := Op.extract (Operand.tmp 65) 1, type := 4, pos := "ref.go:284", after := #[{ on := 6, ground := Ground.data }, { on := 10, ground := Ground.gcOnly Departure.lateStores }], guard := none }) (v := .bool bq) rfl (by kernel_rfl) (by kernel_rfl) (by kernel_rfl) (fun _ _ _ h => h) (Or.inl ⟨by rfl, fun w hSw => ?_⟩) (by assumption) ?_
                · (try dsimp only at hSw)
                  go_simp
                try simp only [Act.put, List.setIfInBounds_toArray, List.set_cons_zero, List.set_cons_succ]
                have d0 := hnbr.cell (j := 0) rfl
                have e0 := hnbr.frz 0
                have d1 := hnbr.cell (j := 1) rfl
                have e1 := hnbr.frz 1
                have d2 := hnbr.cell (j := 2) rfl
                have e2 := hnbr.frz 2
                have d3 := hnbr.cell (j := 3) rfl
                have e3 := hnbr.frz 3
                have d4 := hnbr.cell (j := 4) rfl
                have e4 := hnbr.frz 4
                have d5 := hnbr.cell (j := 5) rfl
                have e5 := hnbr.frz 5
                have d6 := hnbr.cell (j := 6) rfl
                have e6 := hnbr.frz 6
                have hB9 := (((((((hSf.setCell (p := ⟨nb, 0, none⟩) hnz (.int .i64 ht)).setCell (p := ⟨nb, 1, none⟩) hnz (.int .i64 hv)).setCell (p := ⟨nb, 2, none⟩) hnz (.int .i64 ix)).setCell (p := ⟨nb, 3, none⟩) hnz (.int .i64 st)).setCell (p := ⟨nb, 4, none⟩) hnz (.string cf)).setCell (p := ⟨nb, 5, none⟩) hnz (.string dt)).setCell (p := ⟨nb, 6, none⟩) hnz (.slice Av mv cv))
                have hy9 := (((((((hnbr.set 0 (.int .i64 ht)).set 1 (.int .i64 hv)).set 2 (.int .i64 ix)).set 3 (.int .i64 st)).set 4 (.string cf)).set 5 (.string dt)).set 6 (.slice Av mv cv))
                have HV9 := Lib.hid (show OwnEn zs (.slice Av mv cv) _ (((((((wf.setCell ⟨nb, 0, none⟩ (.int .i64 ht)).setCell ⟨nb, 1, none⟩ (.int .i64 hv)).setCell ⟨nb, 2, none⟩ (.int .i64 ix)).setCell ⟨nb, 3, none⟩ (.int .i64 st)).setCell ⟨nb, 4, none⟩ (.string cf)).setCell ⟨nb, 5, none⟩ (.string dt)).setCell ⟨nb, 6, none⟩ (.slice Av mv cv)) from ownsRow_setb hvv hnbr (by decide) _ _ _ _ _ _ _)
                refine wpAnyH_ready (rs := [10]) (by kernel_rfl) (by simp) ?_
                refine AllReadyH.cons (o := { dst := none, op := Op.store 38 (Operand.tmp 8) (Operand.tmp 72), type := 0, pos := "ref.go:284", after := #[{ on := 9, ground := Ground.data }, { on := 7, ground := Ground.data }, { on := 5, ground := Ground.chain }, { on := 0, ground := Ground.phase }, { on := 1, ground := Ground.phase }, { on := 2, ground := Ground.phase }, { on := 3, ground := Ground.phase }, { on := 4, ground := Ground.phase }, { on := 5, ground := Ground.phase }, { on := 6, ground := Ground.phase }, { on := 7, ground := Ground.phase }, { on := 8, ground := Ground.textOnly Departure.lateStores }, { on := 9, ground := Ground.phase }], guard := none }) rfl (fun K hK => ?_) AllReadyH.nil
                go_simp
                obtain ⟨w9, hw9⟩ : ∃ w9, (((((((wf.setCell ⟨nb, 0, none⟩ (.int .i64 ht)).setCell ⟨nb, 1, none⟩ (.int .i64 hv)).setCell ⟨nb, 2, none⟩ (.int .i64 ix)).setCell ⟨nb, 3, none⟩ (.int .i64 st)).setCell ⟨nb, 4, none⟩ (.string cf)).setCell ⟨nb, 5, none⟩ (.string dt)).setCell ⟨nb, 6, none⟩ (.slice Av mv cv)) = w9 := ⟨_, rfl⟩
                rw [hw9] at hB9 hy9 HV9 ⊢
                simp only [List.set_cons_zero, List.set_cons_succ] at hy9
                refine hK.out _ _ ?_ (fun hHeld => ?_)
                · exact hB9
                clear hK K hw9 d0 e0 d1 e1 d2 e2 d3 e3 d4 e4 d5 e5 d6 e6 hvv
                try simp only [Act.put, List.setIfInBounds_toArray, List.set_cons_zero, List.set_cons_succ]
                refine wpAnyH_take (i := 11) (oi := { dst := some 9, op := Op.assign (Operand.tmp 73), type := 4, pos := "ref.go:284", after := #[{ on := 8, ground := Ground.data }, { on := 10, ground := Ground.chain }, { on := 0, ground := Ground.phase }, { on := 1, ground := Ground.phase }, { on := 2, ground := Ground.phase }, { on := 3, ground := Ground.phase }, { on := 4, ground := Ground.phase }, { on := 5, ground := Ground.phase }, { on := 6, ground := Ground.phase }, { on := 7, ground := Ground.phase }, { on := 8, ground := Ground.phase }, { on := 9, ground := Ground.phase }, { on := 10, ground := Ground.phase }], guard := none }) (v := .bool bq) rfl (by kernel_rfl) (by kernel_rfl) (by kernel_rfl) (fun _ _ _ h => h) (Or.inl ⟨by rfl, fun w hSw => ?_⟩) (by assumption) ?_
                · (try dsimp only at hSw)
                  go_simp
                try simp only [Act.put, List.setIfInBounds_toArray, List.set_cons_zero, List.set_cons_succ]
                refine wpAnyH_done (by kernel_rfl) ?_ _
                refine NoPanic.normal ?_
                have hx9 := HX.out.below (by rw [HZS.out]; exact hB9)
                have hs9 := HS.out.below (by rw [HZS.out]; exact hB9)
                have hr9 := HRR2.out.below (by rw [HZS.out]; exact hB9)
                have u0 := hy9.cell (j := 0) rfl
                have u1 := hy9.cell (j := 1) rfl
                have u2 := hy9.cell (j := 2) rfl
                have u3 := hy9.cell (j := 3) rfl
                have u4 := hy9.cell (j := 4) rfl
                have u5 := hy9.cell (j := 5) rfl
                have u6 := hy9.cell (j := 6) rfl
                have d0 := hx9.cell (j := 0) rfl
                have e0 := hx9.frz 0
                have d1 := hx9.cell (j := 1) rfl
                have e1 := hx9.frz 1
                have d2 := hx9.cell (j := 2) rfl
                have e2 := hx9.frz 2
                have d3 := hx9.cell (j := 3) rfl
                have e3 := hx9.frz 3
                have d4 := hx9.cell (j := 4) rfl
                have e4 := hx9.frz 4
                have d5 := hx9.cell (j := 5) rfl
                have e5 := hx9.frz 5
                have d6 := hx9.cell (j := 6) rfl
                have e6 := hx9.frz 6
                have hx8 := (((((((hx9.set 0 (.int .i64 ht)).set 1 (.int .i64 hv)).set 2 (.int .i64 ix)).set 3 (.int .i64 st)).set 4 (.string cf)).set 5 (.string dt)).set 6 (.slice Av mv cv))
                have hs8 := hs9
                have hr8 := hr9
                replace hs8 := hs8.other 0 (.int .i64 ht) (g' := b + 2) (by omega)
                replace hs8 := hs8.other 1 (.int .i64 hv) (g' := b + 2) (by omega)
                replace hs8 := hs8.other 2 (.int .i64 ix) (g' := b + 2) (by omega)
                replace hs8 := hs8.other 3 (.int .i64 st) (g' := b + 2) (by omega)
                replace hs8 := hs8.other 4 (.string cf) (g' := b + 2) (by omega)
                replace hs8 := hs8.other 5 (.string dt) (g' := b + 2) (by omega)
                replace hs8 := hs8.other 6 (.slice Av mv cv) (g' := b + 2) (by omega)
                replace hr8 := hr8.other 0 (.int .i64 ht) (g' := b + 2) (by omega)
                replace hr8 := hr8.other 1 (.int .i64 hv) (g' := b + 2) (by omega)
                replace hr8 := hr8.other 2 (.int .i64 ix) (g' := b + 2) (by omega)
                replace hr8 := hr8.other 3 (.int .i64 st) (g' := b + 2) (by omega)
                replace hr8 := hr8.other 4 (.string cf) (g' := b + 2) (by omega)
                replace hr8 := hr8.other 5 (.string dt) (g' := b + 2) (by omega)
                replace hr8 := hr8.other 6 (.slice Av mv cv) (g' := b + 2) (by omega)
                have hB8 := ((((((((HBw.out.trans (hB9.mono (by omega))).setCell (p := ⟨(b + 2), 0, none⟩) (Nat.le_add_right b 2) (.int .i64 ht)).setCell (p := ⟨(b + 2), 1, none⟩) (Nat.le_add_right b 2) (.int .i64 hv)).setCell (p := ⟨(b + 2), 2, none⟩) (Nat.le_add_right b 2) (.int .i64 ix)).setCell (p := ⟨(b + 2), 3, none⟩) (Nat.le_add_right b 2) (.int .i64 st)).setCell (p := ⟨(b + 2), 4, none⟩) (Nat.le_add_right b 2) (.string cf)).setCell (p := ⟨(b + 2), 5, none⟩) (Nat.le_add_right b 2) (.string dt)).setCell (p := ⟨(b + 2), 6, none⟩) (Nat.le_add_right b 2) (.slice Av mv cv))
                have HV8 := Lib.hid (show OwnEn zs (.slice Av mv cv) _ (((((((w9.setCell ⟨(b + 2), 0, none⟩ (.int .i64 ht)).setCell ⟨(b + 2), 1, none⟩ (.int .i64 hv)).setCell ⟨(b + 2), 2, none⟩ (.int .i64 ix)).setCell ⟨(b + 2), 3, none⟩ (.int .i64 st)).setCell ⟨(b + 2), 4, none⟩ (.string cf)).setCell ⟨(b + 2), 5, none⟩ (.string dt)).setCell ⟨(b + 2), 6, none⟩ (.slice Av mv cv)) from ownsRow_setb HV9.out hx9 (by decide) _ _ _ _ _ _ _)
                obtain ⟨w8, hw8⟩ : ∃ w8, (((((((w9.setCell ⟨(b + 2), 0, none⟩ (.int .i64 ht)).setCell ⟨(b + 2), 1, none⟩ (.int .i64 hv)).setCell ⟨(b + 2), 2, none⟩ (.int .i64 ix)).setCell ⟨(b + 2), 3, none⟩ (.int .i64 st)).setCell ⟨(b + 2), 4, none⟩ (.string cf)).setCell ⟨(b + 2), 5, none⟩ (.string dt)).setCell ⟨(b + 2), 6, none⟩ (.slice Av mv cv)) = w8 := ⟨_, rfl⟩
                rw [hw8] at hx8 hs8 hr8 hB8 HV8
                simp only [List.set_cons_zero, List.set_cons_succ] at hx8
                have HX8 := Lib.hid hx8
                have HS8 := Lib.hid hs8
                have HR8 := Lib.hid hr8
                have HB8 := Lib.hid hB8
                clear hx8 hs8 hr8 hB8 hx9 hs9 hr9 hy9 hB9 hHeld
                go_wp2
                go_roundw
                case rel => exact ⟨0 + 1, Av, mv, cv, _, by go_num, by omega, HS8.out, HR8.out, HX8.out, (Ens.of_own HV8.out).mono (fun j hj _ => .inr (by have := (HV8.out.lt j hj).1; omega)), HWN2.out, HB8.out⟩
                case measure => simp [intOf]; omega
      · obtain ⟨jp, rfl⟩ : ∃ jp, j = jp + 1 := ⟨j - 1, by omega⟩
        have hjpl : jp < l.length := by rw [← HML.out]; omega
        obtain ⟨⟨px, pt, pk, pd⟩, hpj⟩ : ∃ e, l[jp] = e := ⟨_, rfl⟩
        obtain ⟨g', o', hgo, hg', p0, _, _, _⟩ := (HE2.out.below (by rw [HBb.out]; exact HBw.out)).four jp hjpl hpj
        injection hgo with hgo
        injection hgo with e1 e2
        subst e1; subst e2
        have HPJ := Lib.hid hpj
        have hpx := HWS.out.prev hjpl
        rw [hpj] at hpx
        have hpx9 := mayEnt10_is hpx
        simp only at hpx9
        clear hpx
        clear hpj hg' hj0
        have hp01 : ¬ ((jp : Int) + 1 < 0) := by omega
        have hp02 : (0 : Int) ≤ (jp : Int) + 1 := by omega
        have hp03 : IntKind.i64.wrap (jp : Int) = (jp : Int) := by rw [IntKind.wrap_i64]; omega
        have hp04 : ¬ m ≤ jp := by omega
        have hp05 : ¬ m ≤ jp + 1 := by omega
        cases bm with
        | false =>
          go_wp2_with fail
          have hS0 : Below zs wr wr.drew := (Below.refl _ _).drew
          refine wp_region_noPanic ?_
          refine wp_region_held_drew (S := fun W => Below zs wr W) (by kernel_rfl) ?_ (fun hHeld => ?_)
          · exact hS0
          generalize wr.drew = wa at *
          refine wpAnyH_take (i := 0) (oi := { dst := some 17, op := Op.move (Operand.tmp 1), type := 22, pos := "ref.go:281", after := #[], guard := none }) (v := .slice (some ⟨g, o, none⟩) m c2) rfl (by kernel_rfl) (by kernel_rfl) (by kernel_rfl) (fun _ _ _ h => h) (Or.inl ⟨by rfl, fun w hSw => ?_⟩) (by assumption) ?_
          · (try dsimp only at hSw)
            go_simp
          try simp only [Act.put, List.setIfInBounds_toArray, List.set_cons_zero, List.set_cons_succ]
          refine wpAnyH_take (i := 1) (oi := { dst := some 18, op := Op.move (Operand.tmp 7), type := 3, pos := "ref.go:281", after := #[], guard := none }) (v := .int .i64 ((jp : Int) + 1)) rfl (by kernel_rfl) (by kernel_rfl) (by kernel_rfl) (fun _ _ _ h => h) (Or.inl ⟨by rfl, fun w hSw => ?_⟩) (by assumption) ?_
          · (try dsimp only at hSw)
            go_simp
          try simp only [Act.put, List.setIfInBounds_toArray, List.set_cons_zero, List.set_cons_succ]
          refine wpAnyH_take (i := 2) (oi := { dst := some 19, op := Op.indexAddr 22 (Operand.tmp 17) (Operand.tmp 18), type := 0, pos := "ref.go:281", after := #[{ on := 0, ground := Ground.data }, { on := 1, ground := Ground.data }], guard := none }) (v := .pointer (some ⟨g, o + (jp + 1) * 4, none⟩)) rfl (by kernel_rfl) (by kernel_rfl) (by kernel_rfl) (fun _ _ _ h => h) (Or.inl ⟨by rfl, fun w hSw => ?_⟩) (by assumption) ?_
          · (try dsimp only at hSw)
            go_simp
          try simp only [Act.put, List.setIfInBounds_toArray, List.set_cons_zero, List.set_cons_succ]
          refine wpAnyH_take (i := 3) (oi := { dst := some 20, op := Op.load 41 (Operand.tmp 19), type := 41, pos := "ref.go:281", after := #[{ on := 2, ground := Ground.data }], guard := none }) (v := .agg #[.int .i64 ex, .int .i64 et, .int .i64 kd, .string ed]) rfl (by kernel_rfl) (by kernel_rfl) (by kernel_rfl) (fun _ _ _ h => h) (Or.inl ⟨by rfl, fun w hSw => ?_⟩) (by assumption) ?_
          · (try dsimp only at hSw)
            have q0 := (hSw.cell (p := ⟨g, o + (jp + 1) * 4, none⟩) hgz).trans c0
            have q1 := (hSw.cell (p := ⟨g, o + (jp + 1) * 4 + 1, none⟩) hgz).trans c1
            have q2 := (hSw.cell (p := ⟨g, o + (jp + 1) * 4 + 2, none⟩) hgz).trans c2'
            have q3 := (hSw.cell (p := ⟨g, o + (jp + 1) * 4 + 3, none⟩) hgz).trans c3
            go_simp
          try simp only [Act.put, List.setIfInBounds_toArray, List.set_cons_zero, List.set_cons_succ]
          refine wpAnyH_ready (rs := [4]) (by kernel_rfl) (by simp) ?_
          refine AllReadyH.cons (o := { dst := some 21, op := Op.call { callee := Callee.value (Operand.func 22), args := #[Operand.tmp 20], argTypes := #[41] }, type := 4, pos := "ref.go:281", after := #[{ on := 3, ground := Ground.data }], guard := none }) rfl (fun K hK => ?_) AllReadyH.nil
          go_simp
          go_at_call 22
          refine (HMAY.out _).mono ?_
          rintro e wb ⟨rfl, h⟩
          have hSb : Below zs wr wb := hHeld.trans (h.mono (by rw [← HZS.out]; exact hHeld.size))
          clear h
          refine hK.out _ _ ?_ (fun hHeld => ?_)
          · exact hSb
          clear hK K
          try simp only [Act.put, List.setIfInBounds_toArray, List.set_cons_zero, List.set_cons_succ]
          refine wpAnyH_take (i := 5) (oi := { dst := some 22, op := Op.unOp UnOp.not 4 (Operand.tmp 21), type := 4, pos := "ref.go:281", after := #[{ on := 4, ground := Ground.data }], guard := none }) (v := .bool true) rfl (by kernel_rfl) (by kernel_rfl) (by kernel_rfl) (fun _ _ _ h => h) (Or.inl ⟨by rfl, fun w hSw => ?_⟩) (by assumption) ?_
          · (try dsimp only at hSw)
            go_simp
          try simp only [Act.put, List.setIfInBounds_toArray, List.set_cons_zero, List.set_cons_succ]
          refine wpAnyH_take (i := 6) (oi := { dst := some 23, op := Op.move (Operand.tmp 22), type := 4, pos := "ref.go:281", after := #[{ on := 5, ground := Ground.data }, { on := 4, ground := Ground.chain }], guard := none }) (v := .bool true) rfl (by kernel_rfl) (by kernel_rfl) (by kernel_rfl) (fun _ _ _ h => h) (Or.inl ⟨by rfl, fun w hSw => ?_⟩) (by assumption) ?_
          · (try dsimp only at hSw)
            go_simp
          try simp only [Act.put, List.setIfInBounds_toArray, List.set_cons_zero, List.set_cons_succ]
          refine wpAnyH_take (i := 7) (oi := { dst := some 24, op := Op.move (Operand.tmp 7), type := 3, pos := "ref.go:281", after := #[{ on := 6, ground := Ground.guard }], guard := some (6, false) }) (v := undef) rfl (by kernel_rfl) (by kernel_rfl) (by kernel_rfl) (fun _ _ _ h => h) (Or.inr ⟨by rfl, rfl⟩) (by assumption) ?_
          try simp only [Act.put, List.setIfInBounds_toArray, List.set_cons_zero, List.set_cons_succ]
          refine wpAnyH_take (i := 8) (oi := { dst := some 25, op := Op.binOp BinOp.gtr 3 (Operand.tmp 24) (Operand.const (Value.int IntKind.i64 0)) 3, type := 4, pos := "ref.go:281", after := #[{ on := 7, ground := Ground.data }, { on := 6, ground := Ground.guard }], guard := some (6, false) }) (v := undef) rfl (by kernel_rfl) (by kernel_rfl) (by kernel_rfl) (fun _ _ _ h => h) (Or.inr ⟨by rfl, rfl⟩) (by assumption) ?_
          try simp only [Act.put, List.setIfInBounds_toArray, List.set_cons_zero, List.set_cons_succ]
          refine wpAnyH_take (i := 9) (oi := { dst := some 26, op := Op.move (Operand.tmp 25), type := 4, pos := "ref.go:281", after := #[{ on := 8, ground := Ground.data }, { on := 6, ground := Ground.chain }, { on := 6, ground := Ground.guard }], guard := some (6, false) }) (v := undef) rfl (by kernel_rfl) (by kernel_rfl) (by kernel_rfl) (fun _ _ _ h => h) (Or.inr ⟨by rfl, rfl⟩) (by assumption) ?_
          try simp only [Act.put, List.setIfInBounds_toArray, List.set_cons_zero, List.set_cons_succ]
          refine wpAnyH_take (i := 10) (oi := { dst := some 27, op := Op.move (Operand.tmp 1), type := 22, pos := "ref.go:281", after := #[{ on := 9, ground := Ground.guard }], guard := some (9, true) }) (v := undef) rfl (by kernel_rfl) (by kernel_rfl) (by kernel_rfl) (fun _ _ _ h => h) (Or.inr ⟨by rfl, rfl⟩) (by assumption) ?_
          try simp only [Act.put, List.setIfInBounds_toArray, List.set_cons_zero, List.set_cons_succ]
          refine wpAnyH_take (i := 11) (oi := { dst := some 28, op := Op.move (Operand.tmp 7), type := 3, pos := "ref.go:281", after := #[{ on := 9, ground := Ground.guard }], guard := some (9, true) }) (v := undef) rfl (by kernel_rfl) (by kernel_rfl) (by kernel_rfl) (fun _ _ _ h => h) (Or.inr ⟨by rfl, rfl⟩) (by assumption) ?_
          try simp only [Act.put, List.setIfInBounds_toArray, List.set_cons_zero, List.set_cons_succ]
          refine wpAnyH_take (i := 12) (oi := { dst := some 29, op := Op.indexAddr 22 (Operand.tmp 27) (Operand.tmp 28), type := 0, pos := "ref.go:281", after := #[{ on := 10, ground := Ground.data }, { on := 11, ground := Ground.data }, { on := 9, ground := Ground.guard }], guard := some (9, true) }) (v := undef) rfl (by kernel_rfl) (by kernel_rfl) (by kernel_rfl) (fun _ _ _ h => h) (Or.inr ⟨by rfl, rfl⟩) (by assumption) ?_
          try simp only [Act.put, List.setIfInBounds_toArray, List.set_cons_zero, List.set_cons_succ]
          refine wpAnyH_take (i := 13) (oi := { dst := some 30, op := Op.fieldAddr 41 (Operand.tmp 29) 0, type := 0, pos := "ref.go:281", after := #[{ on := 12, ground := Ground.data }, { on := 9, ground := Ground.guard }], guard := some (9, true) }) (v := undef) rfl (by kernel_rfl) (by kernel_rfl) (by kernel_rfl) (fun _ _ _ h => h) (Or.inr ⟨by rfl, rfl⟩) (by assumption) ?_
          try simp only [Act.put, List.setIfInBounds_toArray, List.set_cons_zero, List.set_cons_succ]
          refine wpAnyH_take (i := 14) (oi := { dst := some 31, op := Op.load 2 (Operand.tmp 30), type := 2, pos := "ref.go:281", after := #[{ on := 13, ground := Ground.data }, { on := 9, ground := Ground.guard }], guard := some (9, true) }) (v := undef) rfl (by kernel_rfl) (by kernel_rfl) (by kernel_rfl) (fun _ _ _ h => h) (Or.inr ⟨by rfl, rfl⟩) (by assumption) ?_
          try simp only [Act.put, List.setIfInBounds_toArray, List.set_cons_zero, List.set_cons_succ]
          refine wpAnyH_take (i := 15) (oi := { dst := some 32, op := Op.move (Operand.tmp 1), type := 22, pos := "ref.go:281", after := #[{ on := 9, ground := Ground.guard }], guard := some (9, true) }) (v := undef) rfl (by kernel_rfl) (by kernel_rfl) (by kernel_rfl) (fun _ _ _ h => h) (Or.inr ⟨by rfl, rfl⟩) (by assumption) ?_
          try simp only [Act.put, List.setIfInBounds_toArray, List.set_cons_zero, List.set_cons_succ]
          refine wpAnyH_take (i := 16) (oi := { dst := some 33, op := Op.move (Operand.tmp 7), type := 3, pos := "ref.go:281", after := #[{ on := 9, ground := Ground.guard }], guard := some (9, true) }) (v := undef) rfl (by kernel_rfl) (by kernel_rfl) (by kernel_rfl) (fun _ _ _ h => h) (Or.inr ⟨by rfl, rfl⟩) (by assumption) ?_
          try simp only [Act.put, List.setIfInBounds_toArray, List.set_cons_zero, List.set_cons_succ]
          refine wpAnyH_take (i := 17) (oi := { dst := some 34, op := Op.binOp BinOp.sub 3 (Operand.tmp 33) (Operand.const (Value.int IntKind.i64 1)) 3, type := 3, pos := "ref.go:281", after := #[{ on := 16, ground := Ground.data }, { on := 9, ground := Ground.guard }], guard := some (9, true) }) (v := undef) rfl (by kernel_rfl) (by kernel_rfl) (by kernel_rfl) (fun _ _ _ h => h) (Or.inr ⟨by rfl, rfl⟩) (by assumption) ?_
          try simp only [Act.put, List.setIfInBounds_toArray, List.set_cons_zero, List.set_cons_succ]
          refine wpAnyH_take (i := 18) (oi := { dst := some 35, op := Op.indexAddr 22 (Operand.tmp 32) (Operand.tmp 34), type := 0, pos := "ref.go:281", after := #[{ on := 15, ground := Ground.data }, { on := 17, ground := Ground.data }, { on := 9, ground := Ground.guard }], guard := some (9, true) }) (v := undef) rfl (by kernel_rfl) (by kernel_rfl) (by kernel_rfl) (fun _ _ _ h => h) (Or.inr ⟨by rfl, rfl⟩) (by assumption) ?_
          try simp only [Act.put, List.setIfInBounds_toArray, List.set_cons_zero, List.set_cons_succ]
          refine wpAnyH_take (i := 19) (oi := { dst := some 36, op := Op.fieldAddr 41 (Operand.tmp 35) 0, type := 0, pos := "ref.go:281", after := #[{ on := 18, ground := Ground.data }, { on := 9, ground := Ground.guard }], guard := some (9, true) }) (v := undef) rfl (by kernel_rfl) (by kernel_rfl) (by kernel_rfl) (fun _ _ _ h => h) (Or.inr ⟨by rfl, rfl⟩) (by assumption) ?_
          try simp only [Act.put, List.setIfInBounds_toArray, List.set_cons_zero, List.set_cons_succ]
          refine wpAnyH_take (i := 20) (oi := { dst := some 37, op := Op.load 2 (Operand.tmp 36), type := 2, pos := "ref.go:281", after := #[{ on := 19, ground := Ground.data }, { on := 9, ground := Ground.guard }], guard := some (9, true) }) (v := undef) rfl (by kernel_rfl) (by kernel_rfl) (by kernel_rfl) (fun _ _ _ h => h) (Or.inr ⟨by rfl, rfl⟩) (by assumption) ?_
          try simp only [Act.put, List.setIfInBounds_toArray, List.set_cons_zero, List.set_cons_succ]
          refine wpAnyH_take (i := 21) (oi := { dst := some 38, op := Op.binOp BinOp.add 2 (Operand.tmp 37) (Operand.const (Value.int IntKind.i64 1)) 2, type := 2, pos := "ref.go:281", after := #[{ on := 20, ground := Ground.data }, { on := 9, ground := Ground.guard }], guard := some (9, true) }) (v := undef) rfl (by kernel_rfl) (by kernel_rfl) (by kernel_rfl) (fun _ _ _ h => h) (Or.inr ⟨by rfl, rfl⟩) (by assumption) ?_
          try simp only [Act.put, List.setIfInBounds_toArray, List.set_cons_zero, List.set_cons_succ]
          refine wpAnyH_take (i := 22) (oi := { dst := some 39, op := Op.binOp BinOp.neq 2 (Operand.tmp 31) (Operand.tmp 38) 2, type := 4, pos := "ref.go:281", after := #[{ on := 14, ground := Ground.data }, { on := 21, ground := Ground.data }, { on := 9, ground := Ground.guard }], guard := some (9, true) }) (v := undef) rfl (by kernel_rfl) (by kernel_rfl) (by kernel_rfl) (fun _ _ _ h => h) (Or.inr ⟨by rfl, rfl⟩) (by assumption) ?_
          try simp only [Act.put, List.setIfInBounds_toArray, List.set_cons_zero, List.set_cons_succ]
          refine wpAnyH_take (i := 23) (oi := { dst := some 40, op := Op.pick (Operand.tmp 26) (Operand.tmp 39) (Operand.const (Value.bool false)), type := 4, pos := "ref.go:281", after := #[{ on := 9, ground := Ground.data }, { on := 22, ground := Ground.data }, { on := 6, ground := Ground.guard }], guard := some (6, false) }) (v := undef) rfl (by kernel_rfl) (by kernel_rfl) (by kernel_rfl) (fun _ _ _ h => h) (Or.inr ⟨by rfl, rfl⟩) (by assumption) ?_
          try simp only [Act.put, List.setIfInBounds_toArray, List.set_cons_zero, List.set_cons_succ]
          refine wpAnyH_take (i := 24) (oi := { dst := some 41, op := Op.pick (Operand.tmp 23) (Operand.const (Value.bool true)) (Operand.tmp 40), type := 4, pos := "ref.go:281", after := #[{ on := 6, ground := Ground.data }, { on := 23, ground := Ground.data }], guard := none }) (v := .bool true) rfl (by kernel_rfl) (by kernel_rfl) (by kernel_rfl) (fun _ _ _ h => h) (Or.inl ⟨by rfl, fun w hSw => ?_⟩) (by assumption) ?_
          · (try dsimp only at hSw)
            go_simp
          try simp only [Act.put, List.setIfInBounds_toArray, List.set_cons_zero, List.set_cons_succ]
          refine wpAnyH_take (i := 25) (oi := { dst := some 42, op := Op.move (Operand.tmp 41), type := 4, pos := "ref.go:281", after := #[{ on := 24, ground := Ground.data }, { on := 9, ground := Ground.chain }], guard := none }) (v := .bool true) rfl (by kernel_rfl) (by kernel_rfl) (by kernel_rfl) (fun _ _ _ h => h) (Or.inl ⟨by rfl, fun w hSw => ?_⟩) (by assumption) ?_
          · (try dsimp only at hSw)
            go_simp
          try simp only [Act.put, List.setIfInBounds_toArray, List.set_cons_zero, List.set_cons_succ]
          refine wpAnyH_take (i := 26) (oi := { dst := some 43, op := Op.move (Operand.tmp 1), type := 22, pos := "ref.go:281", after := #[{ on := 25, ground := Ground.guard }], guard := some (25, false) }) (v := undef) rfl (by kernel_rfl) (by kernel_rfl) (by kernel_rfl) (fun _ _ _ h => h) (Or.inr ⟨by rfl, rfl⟩) (by assumption) ?_
          try simp only [Act.put, List.setIfInBounds_toArray, List.set_cons_zero, List.set_cons_succ]
          refine wpAnyH_take (i := 27) (oi := { dst := some 44, op := Op.move (Operand.tmp 7), type := 3, pos := "ref.go:281", after := #[{ on := 25, ground := Ground.guard }], guard := some (25, false) }) (v := undef) rfl (by kernel_rfl) (by kernel_rfl) (by kernel_rfl) (fun _ _ _ h => h) (Or.inr ⟨by rfl, rfl⟩) (by assumption) ?_
          try simp only [Act.put, List.setIfInBounds_toArray, List.set_cons_zero, List.set_cons_succ]
          refine wpAnyH_take (i := 28) (oi := { dst := some 45, op := Op.indexAddr 22 (Operand.tmp 43) (Operand.tmp 44), type := 0, pos := "ref.go:281", after := #[{ on := 26, ground := Ground.data }, { on := 27, ground := Ground.data }, { on := 25, ground := Ground.guard }], guard := some (25, false) }) (v := undef) rfl (by kernel_rfl) (by kernel_rfl) (by kernel_rfl) (fun _ _ _ h => h) (Or.inr ⟨by rfl, rfl⟩) (by assumption) ?_
          try simp only [Act.put, List.setIfInBounds_toArray, List.set_cons_zero, List.set_cons_succ]
          refine wpAnyH_take (i := 29) (oi := { dst := some 46, op := Op.fieldAddr 41 (Operand.tmp 45) 0, type := 0, pos := "ref.go:281", after := #[{ on := 28, ground := Ground.data }, { on := 25, ground := Ground.guard }], guard := some (25, false) }) (v := undef) rfl (by kernel_rfl) (by kernel_rfl) (by kernel_rfl) (fun _ _ _ h => h) (Or.inr ⟨by rfl, rfl⟩) (by assumption) ?_
          try simp only [Act.put, List.setIfInBounds_toArray, List.set_cons_zero, List.set_cons_succ]
          refine wpAnyH_take (i := 30) (oi := { dst := some 47, op := Op.load 2 (Operand.tmp 46), type := 2, pos := "ref.go:281", after := #[{ on := 29, ground := Ground.data }, { on := 25, ground := Ground.guard }], guard := some (25, false) }) (v := undef) rfl (by kernel_rfl) (by kernel_rfl) (by kernel_rfl) (fun _ _ _ h => h) (Or.inr ⟨by rfl, rfl⟩) (by assumption) ?_
          try simp only [Act.put, List.setIfInBounds_toArray, List.set_cons_zero, List.set_cons_succ]
          refine wpAnyH_take (i := 31) (oi := { dst := some 48, op := Op.fieldAddr 38 (Operand.tmp 6) 1, type := 0, pos := "ref.go:281", after := #[{ on := 25, ground := Ground.guard }], guard := some (25, false) }) (v := undef) rfl (by kernel_rfl) (by kernel_rfl) (by kernel_rfl) (fun _ _ _ h => h) (Or.inr ⟨by rfl, rfl⟩) (by assumption) ?_
          try simp only [Act.put, List.setIfInBounds_toArray, List.set_cons_zero, List.set_cons_succ]
          refine wpAnyH_take (i := 32) (oi := { dst := some 49, op := Op.fieldAddr 33 (Operand.tmp 48) 0, type := 0, pos := "ref.go:281", after := #[{ on := 31, ground := Ground.data }, { on := 25, ground := Ground.guard }], guard := some (25, false) }) (v := undef) rfl (by kernel_rfl) (by kernel_rfl) (by kernel_rfl) (fun _ _ _ h => h) (Or.inr ⟨by rfl, rfl⟩) (by assumption) ?_
          try simp only [Act.put, List.setIfInBounds_toArray, List.set_cons_zero, List.set_cons_succ]
          refine wpAnyH_take (i := 33) (oi := { dst := some 50, op := Op.load 2 (Operand.tmp 49), type := 2, pos := "ref.go:281", after := #[{ on := 32, ground := Ground.data }, { on := 25, ground := Ground.guard }], guard := some (25, false) }) (v := undef) rfl (by kernel_rfl) (by kernel_rfl) (by kernel_rfl) (fun _ _ _ h => h) (Or.inr ⟨by rfl, rfl⟩) (by assumption) ?_
          try simp only [Act.put, List.setIfInBounds_toArray, List.set_cons_zero, List.set_cons_succ]
          refine wpAnyH_take (i := 34) (oi := { dst := some 51, op := Op.binOp BinOp.leq 2 (Operand.tmp 47) (Operand.tmp 50) 2, type := 4, pos := "ref.go:281", after := #[{ on := 30, ground := Ground.data }, { on := 33, ground := Ground.data }, { on := 25, ground := Ground.guard }], guard := some (25, false) }) (v := undef) rfl (by kernel_rfl) (by kernel_rfl) (by kernel_rfl) (fun _ _ _ h => h) (Or.inr ⟨by rfl, rfl⟩) (by assumption) ?_
          try simp only [Act.put, List.setIfInBounds_toArray, List.set_cons_zero, List.set_cons_succ]
          refine wpAnyH_take (i := 35) (oi := { dst := some 52, op := Op.pick (Operand.tmp 42) (Operand.const (Value.bool true)) (Operand.tmp 51), type := 4, pos := "ref.go:281", after := #[{ on := 25, ground := Ground.data }, { on := 34, ground := Ground.data }], guard := none }) (v := .bool true) rfl (by kernel_rfl) (by kernel_rfl) (by kernel_rfl) (fun _ _ _ h => h) (Or.inl ⟨by rfl, fun w hSw => ?_⟩) (by assumption) ?_
          · (try dsimp only at hSw)
            go_simp
          try simp only [Act.put, List.setIfInBounds_toArray, List.set_cons_zero, List.set_cons_succ]
          refine wpAnyH_take (i := 36) (oi := { dst := some 53, op := Op.move (Operand.tmp 52), type := 4, pos := "ref.go:281", after := #[{ on := 35, ground := Ground.data }, { on := 25, ground := Ground.chain }], guard := none }) (v := .bool true) rfl (by kernel_rfl) (by kernel_rfl) (by kernel_rfl) (fun _ _ _ h => h) (Or.inl ⟨by rfl, fun w hSw => ?_⟩) (by assumption) ?_
          · (try dsimp only at hSw)
            go_simp
          try simp only [Act.put, List.setIfInBounds_toArray, List.set_cons_zero, List.set_cons_succ]
          refine wpAnyH_take (i := 37) (oi := { dst := some 54, op := Op.move (Operand.tmp 1), type := 22, pos := "ref.go:281", after := #[{ on := 36, ground := Ground.guard }], guard := some (36, false) }) (v := undef) rfl (by kernel_rfl) (by kernel_rfl) (by kernel_rfl) (fun _ _ _ h => h) (Or.inr ⟨by rfl, rfl⟩) (by assumption) ?_
          try simp only [Act.put, List.setIfInBounds_toArray, List.set_cons_zero, List.set_cons_succ]
          refine wpAnyH_take (i := 38) (oi := { dst := some 55, op := Op.move (Operand.tmp 7), type := 3, pos := "ref.go:281", after := #[{ on := 36, ground := Ground.guard }], guard := some (36, false) }) (v := undef) rfl (by kernel_rfl) (by kernel_rfl) (by kernel_rfl) (fun _ _ _ h => h) (Or.inr ⟨by rfl, rfl⟩) (by assumption) ?_
          try simp only [Act.put, List.setIfInBounds_toArray, List.set_cons_zero, List.set_cons_succ]
          refine wpAnyH_take (i := 39) (oi := { dst := some 56, op := Op.indexAddr 22 (Operand.tmp 54) (Operand.tmp 55), type := 0, pos := "ref.go:281", after := #[{ on := 37, ground := Ground.data }, { on := 38, ground := Ground.data }, { on := 36, ground := Ground.guard }], guard := some (36, false) }) (v := undef) rfl (by kernel_rfl) (by kernel_rfl) (by kernel_rfl) (fun _ _ _ h => h) (Or.inr ⟨by rfl, rfl⟩) (by assumption) ?_
          try simp only [Act.put, List.setIfInBounds_toArray, List.set_cons_zero, List.set_cons_succ]
          refine wpAnyH_take (i := 40) (oi := { dst := some 57, op := Op.fieldAddr 41 (Operand.tmp 56) 0, type := 0, pos := "ref.go:281", after := #[{ on := 39, ground := Ground.data }, { on := 36, ground := Ground.guard }], guard := some (36, false) }) (v := undef) rfl (by kernel_rfl) (by kernel_rfl) (by kernel_rfl) (fun _ _ _ h => h) (Or.inr ⟨by rfl, rfl⟩) (by assumption) ?_
          try simp only [Act.put, List.setIfInBounds_toArray, List.set_cons_zero, List.set_cons_succ]
          refine wpAnyH_take (i := 41) (oi := { dst := some 58, op := Op.load 2 (Operand.tmp 57), type := 2, pos := "ref.go:281", after := #[{ on := 40, ground := Ground.data }, { on := 36, ground := Ground.guard }], guard := some (36, false) }) (v := undef) rfl (by kernel_rfl) (by kernel_rfl) (by kernel_rfl) (fun _ _ _ h => h) (Or.inr ⟨by rfl, rfl⟩) (by assumption) ?_
          try simp only [Act.put, List.setIfInBounds_toArray, List.set_cons_zero, List.set_cons_succ]
          refine wpAnyH_take (i := 42) (oi := { dst := some 59, op := Op.load 38 (Operand.tmp 6), type := 38, pos := "ref.go:281", after := #[{ on := 36, ground := Ground.guard }], guard := some (36, false) }) (v := undef) rfl (by kernel_rfl) (by kernel_rfl) (by kernel_rfl) (fun _ _ _ h => h) (Or.inr ⟨by rfl, rfl⟩) (by assumption) ?_
          try simp only [Act.put, List.setIfInBounds_toArray, List.set_cons_zero, List.set_cons_succ]
          refine wpAnyH_take (i := 43) (oi := { dst := some 60, op := Op.call { callee := Callee.value (Operand.func 23), args := #[Operand.tmp 59], argTypes := #[38] }, type := 2, pos := "ref.go:281", after := #[{ on := 42, ground := Ground.data }, { on := 36, ground := Ground.chain }, { on := 36, ground := Ground.guard }], guard := some (36, false) }) (v := undef) rfl (by kernel_rfl) (by kernel_rfl) (by kernel_rfl) (fun _ _ _ h => h) (Or.inr ⟨by rfl, rfl⟩) (by assumption) ?_
          try simp only [Act.put, List.setIfInBounds_toArray, List.set_cons_zero, List.set_cons_succ]
          refine wpAnyH_take (i := 44) (oi := { dst := some 61, op := Op.binOp BinOp.add 2 (Operand.tmp 60) (Operand.const (Value.int IntKind.i64 1)) 2, type := 2, pos := "ref.go:281", after := #[{ on := 43, ground := Ground.data }, { on := 36, ground := Ground.guard }], guard := some (36, false) }) (v := undef) rfl (by kernel_rfl) (by kernel_rfl) (by kernel_rfl) (fun _ _ _ h => h) (Or.inr ⟨by rfl, rfl⟩) (by assumption) ?_
          try simp only [Act.put, List.setIfInBounds_toArray, List.set_cons_zero, List.set_cons_succ]
          refine wpAnyH_take (i := 45) (oi := { dst := some 62, op := Op.binOp BinOp.gtr 2 (Operand.tmp 58) (Operand.tmp 61) 2, type := 4, pos := "ref.go:281", after := #[{ on := 41, ground := Ground.data }, { on := 44, ground := Ground.data }, { on := 36, ground := Ground.guard }], guard := some (36, false) }) (v := undef) rfl (by kernel_rfl) (by kernel_rfl) (by kernel_rfl) (fun _ _ _ h => h) (Or.inr ⟨by rfl, rfl⟩) (by assumption) ?_
          try simp only [Act.put, List.setIfInBounds_toArray, List.set_cons_zero, List.set_cons_succ]
          refine wpAnyH_take (i := 46) (oi := { dst := some 63, op := Op.pick (Operand.tmp 53) (Operand.const (Value.bool true)) (Operand.tmp 62), type := 4, pos := "ref.go:281", after := #[{ on := 36, ground := Ground.data }, { on := 45, ground := Ground.data }], guard := none }) (v := .bool true) rfl (by kernel_rfl) (by kernel_rfl) (by kernel_rfl) (fun _ _ _ h => h) (Or.inl ⟨by rfl, fun w hSw => ?_⟩) (by assumption) ?_
          · (try dsimp only at hSw)
            go_simp
          try simp only [Act.put, List.setIfInBounds_toArray, List.set_cons_zero, List.set_cons_succ]
          refine wpAnyH_done (by kernel_rfl) ?_ _
          refine NoPanic.normal ?_
          have hs5 := HS.out.below (by rw [HZS.out]; exact hSb)
          have hr5 := HRR2.out.below (by rw [HZS.out]; exact hSb)
          have hB5 := HBw.out.trans (hSb.mono (by rw [← HZS.out]; have := HX.out.lt; omega))
          have u0 := hs5.cell (j := 0) rfl
          have u1 := hs5.cell (j := 1) rfl
          have u2 := hs5.cell (j := 2) rfl
          have u3 := hs5.cell (j := 3) rfl
          have u4 := hs5.cell (j := 4) rfl
          have u5 := hs5.cell (j := 5) rfl
          have u6 := hs5.cell (j := 6) rfl
          have d0 := hr5.cell (j := 0) rfl
          have e0 := hr5.frz 0
          have d1 := hr5.cell (j := 1) rfl
          have e1 := hr5.frz 1
          have d2 := hr5.cell (j := 2) rfl
          have e2 := hr5.frz 2
          have d3 := hr5.cell (j := 3) rfl
          have e3 := hr5.frz 3
          have d4 := hr5.cell (j := 4) rfl
          have e4 := hr5.frz 4
          have d5 := hr5.cell (j := 5) rfl
          have e5 := hr5.frz 5
          have d6 := hr5.cell (j := 6) rfl
          have e6 := hr5.frz 6
          have hy9 := (((((((hr5.set 0 (.int .i64 ht)).set 1 (.int .i64 hv)).set 2 (.int .i64 ix)).set 3 (.int .i64 st)).set 4 (.string cf)).set 5 (.string dt)).set 6 (.slice A n c))
          have hB9 := (((((((hB5.setCell (p := ⟨(b + 1), 0, none⟩) (Nat.le_add_right b 1) (.int .i64 ht)).setCell (p := ⟨(b + 1), 1, none⟩) (Nat.le_add_right b 1) (.int .i64 hv)).setCell (p := ⟨(b + 1), 2, none⟩) (Nat.le_add_right b 1) (.int .i64 ix)).setCell (p := ⟨(b + 1), 3, none⟩) (Nat.le_add_right b 1) (.int .i64 st)).setCell (p := ⟨(b + 1), 4, none⟩) (Nat.le_add_right b 1) (.string cf)).setCell (p := ⟨(b + 1), 5, none⟩) (Nat.le_add_right b 1) (.string dt)).setCell (p := ⟨(b + 1), 6, none⟩) (Nat.le_add_right b 1) (.slice A n c))
          obtain ⟨k9, hk9⟩ : ∃ k9, (((((((wb.setCell ⟨(b + 1), 0, none⟩ (.int .i64 ht)).setCell ⟨(b + 1), 1, none⟩ (.int .i64 hv)).setCell ⟨(b + 1), 2, none⟩ (.int .i64 ix)).setCell ⟨(b + 1), 3, none⟩ (.int .i64 st)).setCell ⟨(b + 1), 4, none⟩ (.string cf)).setCell ⟨(b + 1), 5, none⟩ (.string dt)).setCell ⟨(b + 1), 6, none⟩ (.slice A n c)) = k9 := ⟨_, rfl⟩
          rw [hk9] at hy9 hB9
          simp only [List.set_cons_zero, List.set_cons_succ] at hy9
          have HY9 := Lib.hid hy9
          have HB9 := Lib.hid hB9
          clear hy9 hB9
          go_wp2
          have hy9 := HY9.out
          have g0 := hy9.cell (j := 0) rfl
          have g1 := hy9.cell (j := 1) rfl
          have g2 := hy9.cell (j := 2) rfl
          have g3 := hy9.cell (j := 3) rfl
          have g4 := hy9.cell (j := 4) rfl
          have g5 := hy9.cell (j := 5) rfl
          have g6 := hy9.cell (j := 6) rfl
          have hwr : r = (1, k) := by rw [← HR.out]; exact write_may (by rw [← HML.out]; exact hlt) (by rw [HEJ.out]; exact HBM.out)
          refine bodyPost_ret (v := .tuple #[.agg #[.int .i64 ht, .int .i64 hv, .int .i64 ix, .int .i64 st, .string cf, .string dt, .slice A n c], .int .i64 1]) (by simp [results, Tryd.results9, go_sem, g0, g1, g2, g3, g4, g5, g6]) rfl ⟨.slice A n c, ?_, ?_, HB9.out⟩
          · rw [hwr, ← HK.out]
          · exact by rw [hwr]; show Ens _ k9 (.slice A n c) k.log; rw [← HK.out]; exact ((HE.out.below (by rw [HBb.out]; exact HB9.out)).mono (fun j hj _ => .inl hj))
        | true =>
          have hwp : IntKind.i64.wrap (px + 1) = px + 1 := by rw [IntKind.wrap_i64]; omega
          by_cases hrow : ex = px + 1
          · have hnn := HWS.out.next (by rw [← HML.out]; exact hlt) (by rw [HEJ.out]; exact HBM.out) (by rw [HEJ.out, HPJ.out]; exact hrow)
            rw [HEJ.out] at hnn
            obtain ⟨hex, hwn⟩ := hnn
            rw [← HK.out] at hex
            simp only at hex
            rw [← HNX.out] at hex hwn
            have hlo : ¬ ex ≤ ix := by omega
            have hhi : ¬ ix + (nx : Int) + 1 < ex := by omega
            have hwx : IntKind.i64.wrap (ix + (nx : Int) + 1) = ix + (nx : Int) + 1 := by rw [IntKind.wrap_i64]; omega
            have hne1 : (ex != px + 1) = false := by simpa using hrow
            have HEXX := Lib.hid hex
            have HWN := Lib.hid hwn
            have HROW := Lib.hid hrow
            clear hex hwn hrow
            have y0 := HX.out.cell (j := 0) rfl
            have y1 := HX.out.cell (j := 1) rfl
            have y2 := HX.out.cell (j := 2) rfl
            have y3 := HX.out.cell (j := 3) rfl
            have y4 := HX.out.cell (j := 4) rfl
            have y5 := HX.out.cell (j := 5) rfl
            have y6 := HX.out.cell (j := 6) rfl
            go_wp2_with fail
            have hS0 : Below zs wr wr.drew := (Below.refl _ _).drew
            refine wp_region_noPanic ?_
            refine wp_region_held_drew (S := fun W => Below zs wr W) (by kernel_rfl) ?_ (fun hHeld => ?_)
            · exact hS0
            generalize wr.drew = wa at *
            refine wpAnyH_take (i := 0) (oi := { dst := some 17, op := Op.move (Operand.tmp 1), type := 22, pos := "ref.go:281", after := #[], guard := none }) (v := .slice (some ⟨g, o, none⟩) m c2) rfl (by kernel_rfl) (by kernel_rfl) (by kernel_rfl) (fun _ _ _ h => h) (Or.inl ⟨by rfl, fun w hSw => ?_⟩) (by assumption) ?_
            · (try dsimp only at hSw)
              go_simp
            try simp only [Act.put, List.setIfInBounds_toArray, List.set_cons_zero, List.set_cons_succ]
            refine wpAnyH_take (i := 1) (oi := { dst := some 18, op := Op.move (Operand.tmp 7), type := 3, pos := "ref.go:281", after := #[], guard := none }) (v := .int .i64 ((jp : Int) + 1)) rfl (by kernel_rfl) (by kernel_rfl) (by kernel_rfl) (fun _ _ _ h => h) (Or.inl ⟨by rfl, fun w hSw => ?_⟩) (by assumption) ?_
            · (try dsimp only at hSw)
              go_simp
            try simp only [Act.put, List.setIfInBounds_toArray, List.set_cons_zero, List.set_cons_succ]
            refine wpAnyH_take (i := 2) (oi := { dst := some 19, op := Op.indexAddr 22 (Operand.tmp 17) (Operand.tmp 18), type := 0, pos := "ref.go:281", after := #[{ on := 0, ground := Ground.data }, { on := 1, ground := Ground.data }], guard := none }) (v := .pointer (some ⟨g, o + (jp + 1) * 4, none⟩)) rfl (by kernel_rfl) (by kernel_rfl) (by kernel_rfl) (fun _ _ _ h => h) (Or.inl ⟨by rfl, fun w hSw => ?_⟩) (by assumption) ?_
            · (try dsimp only at hSw)
              go_simp
            try simp only [Act.put, List.setIfInBounds_toArray, List.set_cons_zero, List.set_cons_succ]
            refine wpAnyH_take (i := 3) (oi := { dst := some 20, op := Op.load 41 (Operand.tmp 19), type := 41, pos := "ref.go:281", after := #[{ on := 2, ground := Ground.data }], guard := none }) (v := .agg #[.int .i64 ex, .int .i64 et, .int .i64 kd, .string ed]) rfl (by kernel_rfl) (by kernel_rfl) (by kernel_rfl) (fun _ _ _ h => h) (Or.inl ⟨by rfl, fun w hSw => ?_⟩) (by assumption) ?_
            · (try dsimp only at hSw)
              have q0 := (hSw.cell (p := ⟨g, o + (jp + 1) * 4, none⟩) hgz).trans c0
              have q1 := (hSw.cell (p := ⟨g, o + (jp + 1) * 4 + 1, none⟩) hgz).trans c1
              have q2 := (hSw.cell (p := ⟨g, o + (jp + 1) * 4 + 2, none⟩) hgz).trans c2'
              have q3 := (hSw.cell (p := ⟨g, o + (jp + 1) * 4 + 3, none⟩) hgz).trans c3
              go_simp
            try simp only [Act.put, List.setIfInBounds_toArray, List.set_cons_zero, List.set_cons_succ]
            refine wpAnyH_ready (rs := [4]) (by kernel_rfl) (by simp) ?_
            refine AllReadyH.cons (o := { dst := some 21, op := Op.call { callee := Callee.value (Operand.func 22), args := #[Operand.tmp 20], argTypes := #[41] }, type := 4, pos := "ref.go:281", after := #[{ on := 3, ground := Ground.data }], guard := none }) rfl (fun K hK => ?_) AllReadyH.nil
            go_simp
            go_at_call 22
            refine (HMAY.out _).mono ?_
            rintro e wb ⟨rfl, h⟩
            have hSb : Below zs wr wb := hHeld.trans (h.mono (by rw [← HZS.out]; exact hHeld.size))
            clear h
            refine hK.out _ _ ?_ (fun hHeld => ?_)
            · exact hSb
            clear hK K
            try simp only [Act.put, List.setIfInBounds_toArray, List.set_cons_zero, List.set_cons_succ]
            refine wpAnyH_take (i := 5) (oi := { dst := some 22, op := Op.unOp UnOp.not 4 (Operand.tmp 21), type := 4, pos := "ref.go:281", after := #[{ on := 4, ground := Ground.data }], guard := none }) (v := .bool false) rfl (by kernel_rfl) (by kernel_rfl) (by kernel_rfl) (fun _ _ _ h => h) (Or.inl ⟨by rfl, fun w hSw => ?_⟩) (by assumption) ?_
            · (try dsimp only at hSw)
              go_simp
            try simp only [Act.put, List.setIfInBounds_toArray, List.set_cons_zero, List.set_cons_succ]
            refine wpAnyH_take (i := 6) (oi := { dst := some 23, op := Op.move (Operand.tmp 22), type := 4, pos := "ref.go:281", after := #[{ on := 5, ground := Ground.data }, { on := 4, ground := Ground.chain }], guard := none }) (v := .bool false) rfl (by kernel_rfl) (by kernel_rfl) (by kernel_rfl) (fun _ _ _ h => h) (Or.inl ⟨by rfl, fun w hSw => ?_⟩) (by assumption) ?_
            · (try dsimp only at hSw)
              go_simp
            try simp only [Act.put, List.setIfInBounds_toArray, List.set_cons_zero, List.set_cons_succ]
            refine wpAnyH_take (i := 7) (oi := { dst := some 24, op := Op.move (Operand.tmp 7), type := 3, pos := "ref.go:281", after := #[{ on := 6, ground := Ground.guard }], guard := some (6, false) }) (v := .int .i64 ((jp : Int) + 1)) rfl (by kernel_rfl) (by kernel_rfl) (by kernel_rfl) (fun _ _ _ h => h) (Or.inl ⟨by rfl, fun w hSw => ?_⟩) (by assumption) ?_
            · (try dsimp only at hSw)
              go_simp
            try simp only [Act.put, List.setIfInBounds_toArray, List.set_cons_zero, List.set_cons_succ]
            refine wpAnyH_take (i := 8) (oi := { dst := some 25, op := Op.binOp BinOp.gtr 3 (Operand.tmp 24) (Operand.const (Value.int IntKind.i64 0)) 3, type := 4, pos := "ref.go:281", after := #[{ on := 7, ground := Ground.data }, { on := 6, ground := Ground.guard }], guard := some (6, false) }) (v := .bool true) rfl (by kernel_rfl) (by kernel_rfl) (by kernel_rfl) (fun _ _ _ h => h) (Or.inl ⟨by rfl, fun w hSw => ?_⟩) (by assumption) ?_
            · (try dsimp only at hSw)
              go_simp
            try simp only [Act.put, List.setIfInBounds_toArray, List.set_cons_zero, List.set_cons_succ]
            refine wpAnyH_take (i := 9) (oi := { dst := some 26, op := Op.move (Operand.tmp 25), type := 4, pos := "ref.go:281", after := #[{ on := 8, ground := Ground.data }, { on := 6, ground := Ground.chain }, { on := 6, ground := Ground.guard }], guard := some (6, false) }) (v := .bool true) rfl (by kernel_rfl) (by kernel_rfl) (by kernel_rfl) (fun _ _ _ h => h) (Or.inl ⟨by rfl, fun w hSw => ?_⟩) (by assumption) ?_
            · (try dsimp only at hSw)
              go_simp
            try simp only [Act.put, List.setIfInBounds_toArray, List.set_cons_zero, List.set_cons_succ]
            refine wpAnyH_take (i := 10) (oi := { dst := some 27, op := Op.move (Operand.tmp 1), type := 22, pos := "ref.go:281", after := #[{ on := 9, ground := Ground.guard }], guard := some (9, true) }) (v := .slice (some ⟨g, o, none⟩) m c2) rfl (by kernel_rfl) (by kernel_rfl) (by kernel_rfl) (fun _ _ _ h => h) (Or.inl ⟨by rfl, fun w hSw => ?_⟩) (by assumption) ?_
            · (try dsimp only at hSw)
              go_simp
            try simp only [Act.put, List.setIfInBounds_toArray, List.set_cons_zero, List.set_cons_succ]
            refine wpAnyH_take (i := 11) (oi := { dst := some 28, op := Op.move (Operand.tmp 7), type := 3, pos := "ref.go:281", after := #[{ on := 9, ground := Ground.guard }], guard := some (9, true) }) (v := .int .i64 ((jp : Int) + 1)) rfl (by kernel_rfl) (by kernel_rfl) (by kernel_rfl) (fun _ _ _ h => h) (Or.inl ⟨by rfl, fun w hSw => ?_⟩) (by assumption) ?_
            · (try dsimp only at hSw)
              go_simp
            try simp only [Act.put, List.setIfInBounds_toArray, List.set_cons_zero, List.set_cons_succ]
            refine wpAnyH_take (i := 12) (oi := { dst := some 29, op := Op.indexAddr 22 (Operand.tmp 27) (Operand.tmp 28), type := 0, pos := "ref.go:281", after := #[{ on := 10, ground := Ground.data }, { on := 11, ground := Ground.data }, { on := 9, ground := Ground.guard }], guard := some (9, true) }) (v := .pointer (some ⟨g, o + (jp + 1) * 4, none⟩)) rfl (by kernel_rfl) (by kernel_rfl) (by kernel_rfl) (fun _ _ _ h => h) (Or.inl ⟨by rfl, fun w hSw => ?_⟩) (by assumption) ?_
            · (try dsimp only at hSw)
              go_simp
            try simp only [Act.put, List.setIfInBounds_toArray, List.set_cons_zero, List.set_cons_succ]
            refine wpAnyH_take (i := 13) (oi := { dst := some 30, op := Op.fieldAddr 41 (Operand.tmp 29) 0, type := 0, pos := "ref.go:281", after := #[{ on := 12, ground := Ground.data }, { on := 9, ground := Ground.guard }], guard := some (9, true) }) (v := .pointer (some ⟨g, o + (jp + 1) * 4, none⟩)) rfl (by kernel_rfl) (by kernel_rfl) (by kernel_rfl) (fun _ _ _ h => h) (Or.inl ⟨by rfl, fun w hSw => ?_⟩) (by assumption) ?_
            · (try dsimp only at hSw)
              go_simp
            try simp only [Act.put, List.setIfInBounds_toArray, List.set_cons_zero, List.set_cons_succ]
            refine wpAnyH_take (i := 14) (oi := { dst := some 31, op := Op.load 2 (Operand.tmp 30), type := 2, pos := "ref.go:281", after := #[{ on := 13, ground := Ground.data }, { on := 9, ground := Ground.guard }], guard := some (9, true) }) (v := .int .i64 ex) rfl (by kernel_rfl) (by kernel_rfl) (by kernel_rfl) (fun _ _ _ h => h) (Or.inl ⟨by rfl, fun w hSw => ?_⟩) (by assumption) ?_
            · (try dsimp only at hSw)
              have q0 := (hSw.cell (p := ⟨g, o + (jp + 1) * 4, none⟩) hgz).trans c0
              go_simp
            try simp only [Act.put, List.setIfInBounds_toArray, List.set_cons_zero, List.set_cons_succ]
            refine wpAnyH_take (i := 15) (oi := { dst := some 32, op := Op.move (Operand.tmp 1), type := 22, pos := "ref.go:281", after := #[{ on := 9, ground := Ground.guard }], guard := some (9, true) }) (v := .slice (some ⟨g, o, none⟩) m c2) rfl (by kernel_rfl) (by kernel_rfl) (by kernel_rfl) (fun _ _ _ h => h) (Or.inl ⟨by rfl, fun w hSw => ?_⟩) (by assumption) ?_
            · (try dsimp only at hSw)
              go_simp
            try simp only [Act.put, List.setIfInBounds_toArray, List.set_cons_zero, List.set_cons_succ]
            refine wpAnyH_take (i := 16) (oi := { dst := some 33, op := Op.move (Operand.tmp 7), type := 3, pos := "ref.go:281", after := #[{ on := 9, ground := Ground.guard }], guard := some (9, true) }) (v := .int .i64 ((jp : Int) + 1)) rfl (by kernel_rfl) (by kernel_rfl) (by kernel_rfl) (fun _ _ _ h => h) (Or.inl ⟨by rfl, fun w hSw => ?_⟩) (by assumption) ?_
            · (try dsimp only at hSw)
              go_simp
            try simp only [Act.put, List.setIfInBounds_toArray, List.set_cons_zero, List.set_cons_succ]
            refine wpAnyH_take (i := 17) (oi := { dst := some 34, op := Op.binOp BinOp.sub 3 (Operand.tmp 33) (Operand.const (Value.int IntKind.i64 1)) 3, type := 3, pos := "ref.go:281", after := #[{ on := 16, ground := Ground.data }, { on := 9, ground := Ground.guard }], guard := some (9, true) }) (v := .int .i64 (jp : Int)) rfl (by kernel_rfl) (by kernel_rfl) (by kernel_rfl) (fun _ _ _ h => h) (Or.inl ⟨by rfl, fun w hSw => ?_⟩) (by assumption) ?_
            · (try dsimp only at hSw)
              go_simp
            try simp only [Act.put, List.setIfInBounds_toArray, List.set_cons_zero, List.set_cons_succ]
            refine wpAnyH_take (i := 18) (oi := { dst := some 35, op := Op.indexAddr 22 (Operand.tmp 32) (Operand.tmp 34), type := 0, pos := "ref.go:281", after := #[{ on := 15, ground := Ground.data }, { on := 17, ground := Ground.data }, { on := 9, ground := Ground.guard }], guard := some (9, true) }) (v := .pointer (some ⟨g, o + jp * 4, none⟩)) rfl (by kernel_rfl) (by kernel_rfl) (by kernel_rfl) (fun _ _ _ h => h) (Or.inl ⟨by rfl, fun w hSw => ?_⟩) (by assumption) ?_
            · (try dsimp only at hSw)
              go_simp
            try simp only [Act.put, List.setIfInBounds_toArray, List.set_cons_zero, List.set_cons_succ]
            refine wpAnyH_take (i := 19) (oi := { dst := some 36, op := Op.fieldAddr 41 (Operand.tmp 35) 0, type := 0, pos := "ref.go:281", after := #[{ on := 18, ground := Ground.data }, { on := 9, ground := Ground.guard }], guard := some (9, true) }) (v := .pointer (some ⟨g, o + jp * 4, none⟩)) rfl (by kernel_rfl) (by kernel_rfl) (by kernel_rfl) (fun _ _ _ h => h) (Or.inl ⟨by rfl, fun w hSw => ?_⟩) (by assumption) ?_
            · (try dsimp only at hSw)
              go_simp
            try simp only [Act.put, List.setIfInBounds_toArray, List.set_cons_zero, List.set_cons_succ]
            refine wpAnyH_take (i := 20) (oi := { dst := some 37, op := Op.load 2 (Operand.tmp 36), type := 2, pos := "ref.go:281", after := #[{ on := 19, ground := Ground.data }, { on := 9, ground := Ground.guard }], guard := some (9, true) }) (v := .int .i64 px) rfl (by kernel_rfl) (by kernel_rfl) (by kernel_rfl) (fun _ _ _ h => h) (Or.inl ⟨by rfl, fun w hSw => ?_⟩) (by assumption) ?_
            · (try dsimp only at hSw)
              have q0 := (hSw.cell (p := ⟨g, o + jp * 4, none⟩) hgz).trans p0
              go_simp
            try simp only [Act.put, List.setIfInBounds_toArray, List.set_cons_zero, List.set_cons_succ]
            refine wpAnyH_take (i := 21) (oi := { dst := some 38, op := Op.binOp BinOp.add 2 (Operand.tmp 37) (Operand.const (Value.int IntKind.i64 1)) 2, type := 2, pos := "ref.go:281", after := #[{ on := 20, ground := Ground.data }, { on := 9, ground := Ground.guard }], guard := some (9, true) }) (v := .int .i64 (px + 1)) rfl (by kernel_rfl) (by kernel_rfl) (by kernel_rfl) (fun _ _ _ h => h) (Or.inl ⟨by rfl, fun w hSw => ?_⟩) (by assumption) ?_
            · (try dsimp only at hSw)
              go_simp
            try simp only [Act.put, List.setIfInBounds_toArray, List.set_cons_zero, List.set_cons_succ]
            refine wpAnyH_take (i := 22) (oi := { dst := some 39, op := Op.binOp BinOp.neq 2 (Operand.tmp 31) (Operand.tmp 38) 2, type := 4, pos := "ref.go:281", after := #[{ on := 14, ground := Ground.data }, { on := 21, ground := Ground.data }, { on := 9, ground := Ground.guard }], guard := some (9, true) }) (v := .bool false) rfl (by kernel_rfl) (by kernel_rfl) (by kernel_rfl) (fun _ _ _ h => h) (Or.inl ⟨by rfl, fun w hSw => ?_⟩) (by assumption) ?_
            · (try dsimp only at hSw)
              go_simp
            try simp only [Act.put, List.setIfInBounds_toArray, List.set_cons_zero, List.set_cons_succ]
            refine wpAnyH_take (i := 23) (oi := { dst := some 40, op := Op.pick (Operand.tmp 26) (Operand.tmp 39) (Operand.const (Value.bool false)), type := 4, pos := "ref.go:281", after := #[{ on := 9, ground := Ground.data }, { on := 22, ground := Ground.data }, { on := 6, ground := Ground.guard }], guard := some (6, false) }) (v := .bool false) rfl (by kernel_rfl) (by kernel_rfl) (by kernel_rfl) (fun _ _ _ h => h) (Or.inl ⟨by rfl, fun w hSw => ?_⟩) (by assumption) ?_
            · (try dsimp only at hSw)
              go_simp
            try simp only [Act.put, List.setIfInBounds_toArray, List.set_cons_zero, List.set_cons_succ]
            refine wpAnyH_take (i := 24) (oi := { dst := some 41, op := Op.pick (Operand.tmp 23) (Operand.const (Value.bool true)) (Operand.tmp 40), type := 4, pos := "ref.go:281", after := #[{ on := 6, ground := Ground.data }, { on := 23, ground := Ground.data }], guard := none }) (v := .bool false) rfl (by kernel_rfl) (by kernel_rfl) (by kernel_rfl) (fun _ _ _ h => h) (Or.inl ⟨by rfl, fun w hSw => ?_⟩) (by assumption) ?_
            · (try dsimp only at hSw)
              go_simp
            try simp only [Act.put, List.setIfInBounds_toArray, List.set_cons_zero, List.set_cons_succ]
            refine wpAnyH_take (i := 25) (oi := { dst := some 42, op := Op.move (Operand.tmp 41), type := 4, pos := "ref.go:281", after := #[{ on := 24, ground := Ground.data }, { on := 9, ground := Ground.chain }], guard := none }) (v := .bool false) rfl (by kernel_rfl) (by kernel_rfl) (by kernel_rfl) (fun _ _ _ h => h) (Or.inl ⟨by rfl, fun w hSw => ?_⟩) (by assumption) ?_
            · (try dsimp only at hSw)
              go_simp
            try simp only [Act.put, List.setIfInBounds_toArray, List.set_cons_zero, List.set_cons_succ]
            refine wpAnyH_take (i := 26) (oi := { dst := some 43, op := Op.move (Operand.tmp 1), type := 22, pos := "ref.go:281", after := #[{ on := 25, ground := Ground.guard }], guard := some (25, false) }) (v := .slice (some ⟨g, o, none⟩) m c2) rfl (by kernel_rfl) (by kernel_rfl) (by kernel_rfl) (fun _ _ _ h => h) (Or.inl ⟨by rfl, fun w hSw => ?_⟩) (by assumption) ?_
            · (try dsimp only at hSw)
              go_simp
            try simp only [Act.put, List.setIfInBounds_toArray, List.set_cons_zero, List.set_cons_succ]
            refine wpAnyH_take (i := 27) (oi := { dst := some 44, op := Op.move (Operand.tmp 7), type := 3, pos := "ref.go:281", after := #[{ on := 25, ground := Ground.guard }], guard := some (25, false) }) (v := .int .i64 ((jp : Int) + 1)) rfl (by kernel_rfl) (by kernel_rfl) (by kernel_rfl) (fun _ _ _ h => h) (Or.inl ⟨by rfl, fun w hSw => ?_⟩) (by assumption) ?_
            · (try dsimp only at hSw)
              go_simp
            try simp only [Act.put, List.setIfInBounds_toArray, List.set_cons_zero, List.set_cons_succ]
            refine wpAnyH_take (i := 28) (oi := { dst := some 45, op := Op.indexAddr 22 (Operand.tmp 43) (Operand.tmp 44), type := 0, pos := "ref.go:281", after := #[{ on := 26, ground := Ground.data }, { on := 27, ground := Ground.data }, { on := 25, ground := Ground.guard }], guard := some (25, false) }) (v := .pointer (some ⟨g, o + (jp + 1) * 4, none⟩)) rfl (by kernel_rfl) (by kernel_rfl) (by kernel_rfl) (fun _ _ _ h => h) (Or.inl ⟨by rfl, fun w hSw => ?_⟩) (by assumption) ?_
            · (try dsimp only at hSw)
              go_simp
            try simp only [Act.put, List.setIfInBounds_toArray, List.set_cons_zero, List.set_cons_succ]
            refine wpAnyH_take (i := 29) (oi := { dst := some 46, op := Op.fieldAddr 41 (Operand.tmp 45) 0, type := 0, pos := "ref.go:281", after := #[{ on := 28, ground := Ground.data }, { on := 25, ground := Ground.guard }], guard := some (25, false) }) (v := .pointer (some ⟨g, o + (jp + 1) * 4, none⟩)) rfl (by kernel_rfl) (by kernel_rfl) (by kernel_rfl) (fun _ _ _ h => h) (Or.inl ⟨by rfl, fun w hSw => ?_⟩) (by assumption) ?_
            · (try dsimp only at hSw)
              go_simp
            try simp only [Act.put, List.setIfInBounds_toArray, List.set_cons_zero, List.set_cons_succ]
            refine wpAnyH_take (i := 30) (oi := { dst := some 47, op := Op.load 2 (Operand.tmp 46), type := 2, pos := "ref.go:281", after := #[{ on := 29, ground := Ground.data }, { on := 25, ground := Ground.guard }], guard := some (25, false) }) (v := .int .i64 ex) rfl (by kernel_rfl) (by kernel_rfl) (by kernel_rfl) (fun _ _ _ h => h) (Or.inl ⟨by rfl, fun w hSw => ?_⟩) (by assumption) ?_
            · (try dsimp only at hSw)
              have q0 := (hSw.cell (p := ⟨g, o + (jp + 1) * 4, none⟩) hgz).trans c0
              go_simp
            try simp only [Act.put, List.setIfInBounds_toArray, List.set_cons_zero, List.set_cons_succ]
            refine wpAnyH_take (i := 31) (oi := { dst := some 48, op := Op.fieldAddr 38 (Operand.tmp 6) 1, type := 0, pos := "ref.go:281", after := #[{ on := 25, ground := Ground.guard }], guard := some (25, false) }) (v := .pointer (some ⟨b + 2, 2, none⟩)) rfl (by kernel_rfl) (by kernel_rfl) (by kernel_rfl) (fun _ _ _ h => h) (Or.inl ⟨by rfl, fun w hSw => ?_⟩) (by assumption) ?_
            · (try dsimp only at hSw)
              go_simp
            try simp only [Act.put, List.setIfInBounds_toArray, List.set_cons_zero, List.set_cons_succ]
            refine wpAnyH_take (i := 32) (oi := { dst := some 49, op := Op.fieldAddr 33 (Operand.tmp 48) 0, type := 0, pos := "ref.go:281", after := #[{ on := 31, ground := Ground.data }, { on := 25, ground := Ground.guard }], guard := some (25, false) }) (v := .pointer (some ⟨b + 2, 2, none⟩)) rfl (by kernel_rfl) (by kernel_rfl) (by kernel_rfl) (fun _ _ _ h => h) (Or.inl ⟨by rfl, fun w hSw => ?_⟩) (by assumption) ?_
            · (try dsimp only at hSw)
              go_simp
            try simp only [Act.put, List.setIfInBounds_toArray, List.set_cons_zero, List.set_cons_succ]
            refine wpAnyH_take (i := 33) (oi := { dst := some 50, op := Op.load 2 (Operand.tmp 49), type := 2, pos := "ref.go:281", after := #[{ on := 32, ground := Ground.data }, { on := 25, ground := Ground.guard }], guard := some (25, false) }) (v := .int .i64 ix) rfl (by kernel_rfl) (by kernel_rfl) (by kernel_rfl) (fun _ _ _ h => h) (Or.inl ⟨by rfl, fun w hSw => ?_⟩) (by assumption) ?_
            · (try dsimp only at hSw)
              have q0 := (hSw.cell (p := ⟨b + 2, 2, none⟩) hxz).trans x3
              go_simp
            try simp only [Act.put, List.setIfInBounds_toArray, List.set_cons_zero, List.set_cons_succ]
            refine wpAnyH_take (i := 34) (oi := { dst := some 51, op := Op.binOp BinOp.leq 2 (Operand.tmp 47) (Operand.tmp 50) 2, type := 4, pos := "ref.go:281", after := #[{ on := 30, ground := Ground.data }, { on := 33, ground := Ground.data }, { on := 25, ground := Ground.guard }], guard := some (25, false) }) (v := .bool false) rfl (by kernel_rfl) (by kernel_rfl) (by kernel_rfl) (fun _ _ _ h => h) (Or.inl ⟨by rfl, fun w hSw => ?_⟩) (by assumption) ?_
            · (try dsimp only at hSw)
              go_simp
            try simp only [Act.put, List.setIfInBounds_toArray, List.set_cons_zero, List.set_cons_succ]
            refine wpAnyH_take (i := 35) (oi := { dst := some 52, op := Op.pick (Operand.tmp 42) (Operand.const (Value.bool true)) (Operand.tmp 51), type := 4, pos := "ref.go:281", after := #[{ on := 25, ground := Ground.data }, { on := 34, ground := Ground.data }], guard := none }) (v := .bool false) rfl (by kernel_rfl) (by kernel_rfl) (by kernel_rfl) (fun _ _ _ h => h) (Or.inl ⟨by rfl, fun w hSw => ?_⟩) (by assumption) ?_
            · (try dsimp only at hSw)
              go_simp
            try simp only [Act.put, List.setIfInBounds_toArray, List.set_cons_zero, List.set_cons_succ]
            refine wpAnyH_take (i := 36) (oi := { dst := some 53, op := Op.move (Operand.tmp 52), type := 4, pos := "ref.go:281", after := #[{ on := 35, ground := Ground.data }, { on := 25, ground := Ground.chain }], guard := none }) (v := .bool false) rfl (by kernel_rfl) (by kernel_rfl) (by kernel_rfl) (fun _ _ _ h => h) (Or.inl ⟨by rfl, fun w hSw => ?_⟩) (by assumption) ?_
            · (try dsimp only at hSw)
              go_simp
            try simp only [Act.put, List.setIfInBounds_toArray, List.set_cons_zero, List.set_cons_succ]
            refine wpAnyH_take (i := 37) (oi := { dst := some 54, op := Op.move (Operand.tmp 1), type := 22, pos := "ref.go:281", after := #[{ on := 36, ground := Ground.guard }], guard := some (36, false) }) (v := .slice (some ⟨g, o, none⟩) m c2) rfl (by kernel_rfl) (by kernel_rfl) (by kernel_rfl) (fun _ _ _ h => h) (Or.inl ⟨by rfl, fun w hSw => ?_⟩) (by assumption) ?_
            · (try dsimp only at hSw)
              go_simp
            try simp only [Act.put, List.setIfInBounds_toArray, List.set_cons_zero, List.set_cons_succ]
            refine wpAnyH_take (i := 38) (oi := { dst := some 55, op := Op.move (Operand.tmp 7), type := 3, pos := "ref.go:281", after := #[{ on := 36, ground := Ground.guard }], guard := some (36, false) }) (v := .int .i64 ((jp : Int) + 1)) rfl (by kernel_rfl) (by kernel_rfl) (by kernel_rfl) (fun _ _ _ h => h) (Or.inl ⟨by rfl, fun w hSw => ?_⟩) (by assumption) ?_
            · (try dsimp only at hSw)
              go_simp
            try simp only [Act.put, List.setIfInBounds_toArray, List.set_cons_zero, List.set_cons_succ]
            refine wpAnyH_take (i := 39) (oi := { dst := some 56, op := Op.indexAddr 22 (Operand.tmp 54) (Operand.tmp 55), type := 0, pos := "ref.go:281", after := #[{ on := 37, ground := Ground.data }, { on := 38, ground := Ground.data }, { on := 36, ground := Ground.guard }], guard := some (36, false) }) (v := .pointer (some ⟨g, o + (jp + 1) * 4, none⟩)) rfl (by kernel_rfl) (by kernel_rfl) (by kernel_rfl) (fun _ _ _ h => h) (Or.inl ⟨by rfl, fun w hSw => ?_⟩) (by assumption) ?_
            · (try dsimp only at hSw)
              go_simp
            try simp only [Act.put, List.setIfInBounds_toArray, List.set_cons_zero, List.set_cons_succ]
            refine wpAnyH_take (i := 40) (oi := { dst := some 57, op := Op.fieldAddr 41 (Operand.tmp 56) 0, type := 0, pos := "ref.go:281", after := #[{ on := 39, ground := Ground.data }, { on := 36, ground := Ground.guard }], guard := some (36, false) }) (v := .pointer (some ⟨g, o + (jp + 1) * 4, none⟩)) rfl (by kernel_rfl) (by kernel_rfl) (by kernel_rfl) (fun _ _ _ h => h) (Or.inl ⟨by rfl, fun w hSw => ?_⟩) (by assumption) ?_
            · (try dsimp only at hSw)
              go_simp
            try simp only [Act.put, List.setIfInBounds_toArray, List.set_cons_zero, List.set_cons_succ]
            refine wpAnyH_take (i := 41) (oi := { dst := some 58, op := Op.load 2 (Operand.tmp 57), type := 2, pos := "ref.go:281", after := #[{ on := 40, ground := Ground.data }, { on := 36, ground := Ground.guard }], guard := some (36, false) }) (v := .int .i64 ex) rfl (by kernel_rfl) (by kernel_rfl) (by kernel_rfl) (fun _ _ _ h => h) (Or.inl ⟨by rfl, fun w hSw => ?_⟩) (by assumption) ?_
            · (try dsimp only at hSw)
              have q0 := (hSw.cell (p := ⟨g, o + (jp + 1) * 4, none⟩) hgz).trans c0
              go_simp
            try simp only [Act.put, List.setIfInBounds_toArray, List.set_cons_zero, List.set_cons_succ]
            refine wpAnyH_take (i := 42) (oi := { dst := some 59, op := Op.load 38 (Operand.tmp 6), type := 38, pos := "ref.go:281", after := #[{ on := 36, ground := Ground.guard }], guard := some (36, false) }) (v := .agg #[.int .i64 ht, .int .i64 hv, .int .i64 ix, .int .i64 st, .string cf, .string dt, .slice Ax nx cx]) rfl (by kernel_rfl) (by kernel_rfl) (by kernel_rfl) (fun _ _ _ h => h) (Or.inl ⟨by rfl, fun w hSw => ?_⟩) (by assumption) ?_
            · (try dsimp only at hSw)
              have q0 := (hSw.cell (p := ⟨b + 2, 0, none⟩) hxz).trans y0
              have q1 := (hSw.cell (p := ⟨b + 2, 1, none⟩) hxz).trans y1
              have q2 := (hSw.cell (p := ⟨b + 2, 2, none⟩) hxz).trans y2
              have q3 := (hSw.cell (p := ⟨b + 2, 3, none⟩) hxz).trans y3
              have q4 := (hSw.cell (p := ⟨b + 2, 4, none⟩) hxz).trans y4
              have q5 := (hSw.cell (p := ⟨b + 2, 5, none⟩) hxz).trans y5
              have q6 := (hSw.cell (p := ⟨b + 2, 6, none⟩) hxz).trans y6
              go_simp
            try simp only [Act.put, List.setIfInBounds_toArray, List.set_cons_zero, List.set_cons_succ]
            refine wpAnyH_ready (rs := [43]) (by kernel_rfl) (by simp) ?_
            refine AllReadyH.cons (o := { dst := some 60, op := Op.call { callee := Callee.value (Operand.func 23), args := #[Operand.tmp 59], argTypes := #[38] }, type := 2, pos := "ref.go:281", after := #[{ on := 42, ground := Ground.data }, { on := 36, ground := Ground.chain }, { on := 36, ground := Ground.guard }], guard := some (36, false) }) rfl (fun K hK => ?_) AllReadyH.nil
            go_simp
            go_at_call 23
            refine (rlastS_any ht hv ix st cf dt Ax nx cx _ h0 h1 (by omega)).mono ?_
            rintro e wc ⟨rfl, h⟩
            have hSc : Below zs wr wc := hSb.trans (h.mono (by rw [← HZS.out]; exact hSb.size))
            clear h
            refine hK.out _ _ ?_ (fun hHeld => ?_)
            · exact hSc
            clear hK K
            try simp only [Act.put, List.setIfInBounds_toArray, List.set_cons_zero, List.set_cons_succ]
            refine wpAnyH_take (i := 44) (oi := { dst := some 61, op := Op.binOp BinOp.add 2 (Operand.tmp 60) (Operand.const (Value.int IntKind.i64 1)) 2, type := 2, pos := "ref.go:281", after := #[{ on := 43, ground := Ground.data }, { on := 36, ground := Ground.guard }], guard := some (36, false) }) (v := .int .i64 (ix + (nx : Int) + 1)) rfl (by kernel_rfl) (by kernel_rfl) (by kernel_rfl) (fun _ _ _ h => h) (Or.inl ⟨by rfl, fun w hSw => ?_⟩) (by assumption) ?_
            · (try dsimp only at hSw)
              go_simp
            try simp only [Act.put, List.setIfInBounds_toArray, List.set_cons_zero, List.set_cons_succ]
            refine wpAnyH_take (i := 45) (oi := { dst := some 62, op := Op.binOp BinOp.gtr 2 (Operand.tmp 58) (Operand.tmp 61) 2, type := 4, pos := "ref.go:281", after := #[{ on := 41, ground := Ground.data }, { on := 44, ground := Ground.data }, { on := 36, ground := Ground.guard }], guard := some (36, false) }) (v := .bool false) rfl (by kernel_rfl) (by kernel_rfl) (by kernel_rfl) (fun _ _ _ h => h) (Or.inl ⟨by rfl, fun w hSw => ?_⟩) (by assumption) ?_
            · (try dsimp only at hSw)
              go_simp
            try simp only [Act.put, List.setIfInBounds_toArray, List.set_cons_zero, List.set_cons_succ]
            refine wpAnyH_take (i := 46) (oi := { dst := some 63, op := Op.pick (Operand.tmp 53) (Operand.const (Value.bool true)) (Operand.tmp 62), type := 4, pos := "ref.go:281", after := #[{ on := 36, ground := Ground.data }, { on := 45, ground := Ground.data }], guard := none }) (v := .bool false) rfl (by kernel_rfl) (by kernel_rfl) (by kernel_rfl) (fun _ _ _ h => h) (Or.inl ⟨by rfl, fun w hSw => ?_⟩) (by assumption) ?_
            · (try dsimp only at hSw)
              go_simp
            try simp only [Act.put, List.setIfInBounds_toArray, List.set_cons_zero, List.set_cons_succ]
            refine wpAnyH_done (by kernel_rfl) ?_ _
            refine NoPanic.normal ?_
            clear hwx hwp hne1
            have hex := HEXX.out
            have hwn := HWN.out
            have hq : nx ≤ Lx.length := by rw [← HNX.out]; exact Nat.le_refl _
            have HWN2 := Lib.hid hwn
            have HEX2 := Lib.hid hex
            clear hex hwn
            go_wp2_with fail
            have hSd : Below zs wr wc.drew := hSc.drew
            refine wp_region_noPanic ?_
            refine wp_region_held_drew (S := fun W => Below zs wr W) (by kernel_rfl) ?_ (fun hHeld => ?_)
            · exact hSd
            generalize wc.drew = wd at *
            refine wpAnyH_take (i := 0) (oi := { dst := some 66, op := Op.load 38 (Operand.tmp 6), type := 38, pos := "ref.go:284", after := #[], guard := none }) (v := .agg #[.int .i64 ht, .int .i64 hv, .int .i64 ix, .int .i64 st, .string cf, .string dt, .slice Ax nx cx]) rfl (by kernel_rfl) (by kernel_rfl) (by kernel_rfl) (fun _ _ _ h => h) (Or.inl ⟨by rfl, fun w hSw => ?_⟩) (by assumption) ?_
            · (try dsimp only at hSw)
              have q0 := (hSw.cell (p := ⟨b + 2, 0, none⟩) hxz).trans y0
              have q1 := (hSw.cell (p := ⟨b + 2, 1, none⟩) hxz).trans y1
              have q2 := (hSw.cell (p := ⟨b + 2, 2, none⟩) hxz).trans y2
              have q3 := (hSw.cell (p := ⟨b + 2, 3, none⟩) hxz).trans y3
              have q4 := (hSw.cell (p := ⟨b + 2, 4, none⟩) hxz).trans y4
              have q5 := (hSw.cell (p := ⟨b + 2, 5, none⟩) hxz).trans y5
              have q6 := (hSw.cell (p := ⟨b + 2, 6, none⟩) hxz).trans y6
              go_simp
            try simp only [Act.put, List.setIfInBounds_toArray, List.set_cons_zero, List.set_cons_succ]
            refine wpAnyH_take (i := 1) (oi := { dst := some 67, op := Op.move (Operand.tmp 1), type := 22, pos := "ref.go:284", after := #[], guard := none }) (v := .slice (some ⟨g, o, none⟩) m c2) rfl (by kernel_rfl) (by kernel_rfl) (by kernel_rfl) (fun _ _ _ h => h) (Or.inl ⟨by rfl, fun w hSw => ?_⟩) (by assumption) ?_
            · (try dsimp only at hSw)
              go_simp
            try simp only [Act.put, List.setIfInBounds_toArray, List.set_cons_zero, List.set_cons_succ]
            refine wpAnyH_take (i := 2) (oi := { dst := some 68, op := Op.move (Operand.tmp 7), type := 3, pos := "ref.go:284", after := #[], guard := none }) (v := .int .i64 ((jp : Int) + 1)) rfl (by kernel_rfl) (by kernel_rfl) (by kernel_rfl) (fun _ _ _ h => h) (Or.inl ⟨by rfl, fun w hSw => ?_⟩) (by assumption) ?_
            · (try dsimp only at hSw)
              go_simp
            try simp only [Act.put, List.setIfInBounds_toArray, List.set_cons_zero, List.set_cons_succ]
            refine wpAnyH_take (i := 3) (oi := { dst := some 69, op := Op.indexAddr 22 (Operand.tmp 67) (Operand.tmp 68), type := 0, pos := "ref.go:284", after := #[{ on := 1, ground := Ground.data }, { on := 2, ground := Ground.data }], guard := none }) (v := .pointer (some ⟨g, o + (jp + 1) * 4, none⟩)) rfl (by kernel_rfl) (by kernel_rfl) (by kernel_rfl) (fun _ _ _ h => h) (Or.inl ⟨by rfl, fun w hSw => ?_⟩) (by assumption) ?_
            · (try dsimp only at hSw)
              go_simp
            try simp only [Act.put, List.setIfInBounds_toArray, List.set_cons_zero, List.set_cons_succ]
            refine wpAnyH_take (i := 4) (oi := { dst := some 70, op := Op.load 41 (Operand.tmp 69), type := 41, pos := "ref.go:284", after := #[{ on := 3, ground := Ground.data }], guard := none }) (v := .agg #[.int .i64 ex, .int .i64 et, .int .i64 kd, .string ed]) rfl (by kernel_rfl) (by kernel_rfl) (by kernel_rfl) (fun _ _ _ h => h) (Or.inl ⟨by rfl, fun w hSw => ?_⟩) (by assumption) ?_
            · (try dsimp only at hSw)
              have q0 := (hSw.cell (p := ⟨g, o + (jp + 1) * 4, none⟩) hgz).trans c0
              have q1 := (hSw.cell (p := ⟨g, o + (jp + 1) * 4 + 1, none⟩) hgz).trans c1
              have q2 := (hSw.cell (p := ⟨g, o + (jp + 1) * 4 + 2, none⟩) hgz).trans c2'
              have q3 := (hSw.cell (p := ⟨g, o + (jp + 1) * 4 + 3, none⟩) hgz).trans c3
              go_simp
            try simp only [Act.put, List.setIfInBounds_toArray, List.set_cons_zero, List.set_cons_succ]
            refine wpAnyH_ready (rs := [5, 9]) (by kernel_rfl) (by simp) ?_
            refine AllReadyH.cons (o := { dst := some 71, op := Op.call { callee := Callee.value (Operand.func 24), args := #[Operand.tmp 66, Operand.tmp 70], argTypes := #[38, 41] }, type := 69, pos := "ref.go:284", after := #[{ on := 0, ground := Ground.data }, { on := 4, ground := Ground.data }], guard := none }) rfl (fun K hK => ?_) (AllReadyH.cons (o := { dst := some 8, op := Op.alloc 38, type := 0, pos := "ref.go:284", after := #[], guard := none }) rfl (fun K hK => ?_) AllReadyH.nil)
            · go_simp
              go_at_call 24
              refine (rputS_any ht hv ix st cf dt (fun j => (N j ∧ j < b) ∨ b + 3 ≤ j) Ax nx cx Lx ex et kd ed _ (HEX.out.below (by rw [HZS.out]; exact hSd)) h0 h1 (by omega) nx (Nat.le_refl _) HEX2.out).mono ?_
              rintro e we ⟨vv, rfl, hvv, h⟩
              obtain ⟨Av, cv, hvs⟩ := hvv.slice
              obtain ⟨mv, hmv⟩ : ∃ mv, (Lx.take nx ++ [(⟨ex, et, kd, ed⟩ : Ent)]).length = mv := ⟨_, rfl⟩
              rw [hmv] at hvs
              subst hvs
              obtain ⟨bq, hbq⟩ : ∃ bq, decide (nx + 1 ≤ 200) = bq := ⟨_, rfl⟩
              rw [hbq]
              replace hvv : OwnEn zs _ _ we := hvv.down (by rw [← HZS.out]; exact hSd.size)
              have hSe : Below zs wr we := hSd.trans (h.mono (by rw [← HZS.out]; exact hSd.size))
              clear h hmv hbq
              refine hK.out _ _ ?_ (fun hHeld => ?_)
              · exact hSe
              clear hK K
              try simp only [Act.put, List.setIfInBounds_toArray, List.set_cons_zero, List.set_cons_succ]
              refine wpAnyH_take (i := 6) (oi := { dst := some 65, op := Op.move (Operand.tmp 71), type := 69, pos := "ref.go:284", after := #[{ on := 5, ground := Ground.data }], guard := none }) (v := .tuple #[.agg #[.int .i64 ht, .int .i64 hv, .int .i64 ix, .int .i64 st, .string cf, .string dt, .slice Av mv cv], .bool bq]) rfl (by kernel_rfl) (by kernel_rfl) (by kernel_rfl) (fun _ _ _ h => h) (Or.inl ⟨by rfl, fun w hSw => ?_⟩) (by assumption) ?_
              · (try dsimp only at hSw)
                go_simp
              try simp only [Act.put, List.setIfInBounds_toArray, List.set_cons_zero, List.set_cons_succ]
              refine wpAnyH_take (i := 7) (oi := { dst := some 72, op := Op.extract (Operand.tmp 65) 0, type := 38, pos := "ref.go:284", after := #[{ on := 6, ground := Ground.data }], guard := none }) (v := .agg #[.int .i64 ht, .int .i64 hv, .int .i64 ix, .int .i64 st, .string cf, .string dt, .slice Av mv cv]) rfl (by kernel_rfl) (by kernel_rfl) (by kernel_rfl) (fun _ _ _ h => h) (Or.inl ⟨by rfl, fun w hSw => ?_⟩) (by assumption) ?_
              · (try dsimp only at hSw)
                go_simp
              try simp only [Act.put, List.setIfInBounds_toArray, List.set_cons_zero, List.set_cons_succ]
              refine wpAnyH_take (i := 8) (oi := { dst := some 73, op := Op.extract (Operand.tmp 65) 1, type := 4, pos := "ref.go:284", after := #[{ on := 6, ground := Ground.data }, { on := 10, ground := Ground.gcOnly Departure.lateStores }], guard := none }) (v := .bool bq) rfl (by kernel_rfl) (by kernel_rfl) (by kernel_rfl) (fun _ _ _ h => h) (Or.inl ⟨by rfl, fun w hSw => ?_⟩) (by assumption) ?_
              · (try dsimp only at hSw)
                go_simp
              try simp only [Act.put, List.setIfInBounds_toArray, List.set_cons_zero, List.set_cons_succ]
              refine wpAnyH_ready (rs := [9]) (by kernel_rfl) (by simp) ?_
              refine AllReadyH.cons (o := { dst := some 8, op := Op.alloc 38, type := 0, pos := "ref.go:284", after := #[], guard := none }) rfl (fun K hK => ?_) AllReadyH.nil
              go_simp
              obtain ⟨wf, hwfe⟩ : ∃ W9, we.alloc (.cells #[.int .i64 0, .int .i64 0, .int .i64 0, .int .i64 0, .string ⟨#[]⟩, .string ⟨#[]⟩, .slice none 0 0] 38) = W9 := ⟨_, rfl⟩
              obtain ⟨nb, hnb⟩ : ∃ nb, we.heap.size = nb := ⟨_, rfl⟩
              have h : Below we.heap.size we wf := by rw [← hwfe]; exact below_new _ _
              have hnbr : Rt wf nb 38 [.int .i64 0, .int .i64 0, .int .i64 0, .int .i64 0, .string ⟨#[]⟩, .string ⟨#[]⟩, .slice none 0 0] := by rw [← hwfe, ← hnb]; exact Rt.new _ _ _
              have hSf : Below zs wr wf := hSe.trans (h.mono (by rw [← HZS.out]; exact hSe.size))
              have hnz : zs ≤ nb := by rw [← hnb, ← HZS.out]; exact hSe.size
              replace hvv := hvv.below h
              rw [hwfe, hnb]
              clear h hwfe hnb
              refine hK.out _ _ ?_ (fun hHeld => ?_)
              · exact hSf
              clear hK K
              try simp only [Act.put, List.setIfInBounds_toArray, List.set_cons_zero, List.set_cons_succ]
              have d0 := hnbr.cell (j := 0) rfl
              have e0 := hnbr.frz 0
              have d1 := hnbr.cell (j := 1) rfl
              have e1 := hnbr.frz 1
              have d2 := hnbr.cell (j := 2) rfl
              have e2 := hnbr.frz 2
              have d3 := hnbr.cell (j := 3) rfl
              have e3 := hnbr.frz 3
              have d4 := hnbr.cell (j := 4) rfl
              have e4 := hnbr.frz 4
              have d5 := hnbr.cell (j := 5) rfl
              have e5 := hnbr.frz 5
              have d6 := hnbr.cell (j := 6) rfl
              have e6 := hnbr.frz 6
              have hB9 := (((((((hSf.setCell (p := ⟨nb, 0, none⟩) hnz (.int .i64 ht)).setCell (p := ⟨nb, 1, none⟩) hnz (.int .i64 hv)).setCell (p := ⟨nb, 2, none⟩) hnz (.int .i64 ix)).setCell (p := ⟨nb, 3, none⟩) hnz (.int .i64 st)).setCell (p := ⟨nb, 4, none⟩) hnz (.string cf)).setCell (p := ⟨nb, 5, none⟩) hnz (.string dt)).setCell (p := ⟨nb, 6, none⟩) hnz (.slice Av mv cv))
              have hy9 := (((((((hnbr.set 0 (.int .i64 ht)).set 1 (.int .i64 hv)).set 2 (.int .i64 ix)).set 3 (.int .i64 st)).set 4 (.string cf)).set 5 (.string dt)).set 6 (.slice Av mv cv))
              have HV9 := Lib.hid (show OwnEn zs (.slice Av mv cv) _ (((((((wf.setCell ⟨nb, 0, none⟩ (.int .i64 ht)).setCell ⟨nb, 1, none⟩ (.int .i64 hv)).setCell ⟨nb, 2, none⟩ (.int .i64 ix)).setCell ⟨nb, 3, none⟩ (.int .i64 st)).setCell ⟨nb, 4, none⟩ (.string cf)).setCell ⟨nb, 5, none⟩ (.string dt)).setCell ⟨nb, 6, none⟩ (.slice Av mv cv)) from ownsRow_setb hvv hnbr (by decide) _ _ _ _ _ _ _)
              refine wpAnyH_ready (rs := [10]) (by kernel_rfl) (by simp) ?_
              refine AllReadyH.cons (o := { dst := none, op := Op.store 38 (Operand.tmp 8) (Operand.tmp 72), type := 0, pos := "ref.go:284", after := #[{ on := 9, ground := Ground.data }, { on := 7, ground := Ground.data }, { on := 5, ground := Ground.chain }, { on := 0, ground := Ground.phase }, { on := 1, ground := Ground.phase }, { on := 2, ground := Ground.phase }, { on := 3, ground := Ground.phase }, { on := 4, ground := Ground.phase }, { on := 5, ground := Ground.phase }, { on := 6, ground := Ground.phase }, { on := 7, ground := Ground.phase }, { on := 8, ground := Ground.textOnly Departure.lateStores }, { on := 9, ground := Ground.phase }], guard := none }) rfl (fun K hK => ?_) AllReadyH.nil
              go_simp
              obtain ⟨w9, hw9⟩ : ∃ w9, (((((((wf.setCell ⟨nb, 0, none⟩ (.int .i64 ht)).setCell ⟨nb, 1, none⟩ (.int .i64 hv)).setCell ⟨nb, 2, none⟩ (.int .i64 ix)).setCell ⟨nb, 3, none⟩ (.int .i64 st)).setCell ⟨nb, 4, none⟩ (.string cf)).setCell ⟨nb, 5, none⟩ (.string dt)).setCell ⟨nb, 6, none⟩ (.slice Av mv cv)) = w9 := ⟨_, rfl⟩
              rw [hw9] at hB9 hy9 HV9 ⊢
              simp only [List.set_cons_zero, List.set_cons_succ] at hy9
              refine hK.out _ _ ?_ (fun hHeld => ?_)
              · exact hB9
              clear hK K hw9 d0 e0 d1 e1 d2 e2 d3 e3 d4 e4 d5 e5 d6 e6 hvv
              try simp only [Act.put, List.setIfInBounds_toArray, List.set_cons_zero, List.set_cons_succ]
              refine wpAnyH_take (i := 11) (oi := { dst := some 9, op := Op.assign (Operand.tmp 73), type := 4, pos := "ref.go:284", after := #[{ on := 8, ground := Ground.data }, { on := 10, ground := Ground.chain }, { on := 0, ground := Ground.phase }, { on := 1, ground := Ground.phase }, { on := 2, ground := Ground.phase }, { on := 3, ground := Ground.phase }, { on := 4, ground := Ground.phase }, { on := 5, ground := Ground.phase }, { on := 6, ground := Ground.phase }, { on := 7, ground := Ground.phase }, { on := 8, ground := Ground.phase }, { on := 9, ground := Ground.phase }, { on := 10, ground := Ground.phase }], guard := none }) (v := .bool bq) rfl (by kernel_rfl) (by kernel_rfl) (by kernel_rfl) (fun _ _ _ h => h) (Or.inl ⟨by rfl, fun w hSw => ?_⟩) (by assumption) ?_
              · (try dsimp only at hSw)
                go_simp
              try simp only [Act.put, List.setIfInBounds_toArray, List.set_cons_zero, List.set_cons_succ]
              refine wpAnyH_done (by kernel_rfl) ?_ _
              refine NoPanic.normal ?_
              have hx9 := HX.out.below (by rw [HZS.out]; exact hB9)
              have hs9 := HS.out.below (by rw [HZS.out]; exact hB9)
              have hr9 := HRR2.out.below (by rw [HZS.out]; exact hB9)
              have u0 := hy9.cell (j := 0) rfl
              have u1 := hy9.cell (j := 1) rfl
              have u2 := hy9.cell (j := 2) rfl
              have u3 := hy9.cell (j := 3) rfl
              have u4 := hy9.cell (j := 4) rfl
              have u5 := hy9.cell (j := 5) rfl
              have u6 := hy9.cell (j := 6) rfl
              have d0 := hx9.cell (j := 0) rfl
              have e0 := hx9.frz 0
              have d1 := hx9.cell (j := 1) rfl
              have e1 := hx9.frz 1
              have d2 := hx9.cell (j := 2) rfl
              have e2 := hx9.frz 2
              have d3 := hx9.cell (j := 3) rfl
              have e3 := hx9.frz 3
              have d4 := hx9.cell (j := 4) rfl
              have e4 := hx9.frz 4
              have d5 := hx9.cell (j := 5) rfl
              have e5 := hx9.frz 5
              have d6 := hx9.cell (j := 6) rfl
              have e6 := hx9.frz 6
              have hx8 := (((((((hx9.set 0 (.int .i64 ht)).set 1 (.int .i64 hv)).set 2 (.int .i64 ix)).set 3 (.int .i64 st)).set 4 (.string cf)).set 5 (.string dt)).set 6 (.slice Av mv cv))
              have hs8 := hs9
              have hr8 := hr9
              replace hs8 := hs8.other 0 (.int .i64 ht) (g' := b + 2) (by omega)
              replace hs8 := hs8.other 1 (.int .i64 hv) (g' := b + 2) (by omega)
              replace hs8 := hs8.other 2 (.int .i64 ix) (g' := b + 2) (by omega)
              replace hs8 := hs8.other 3 (.int .i64 st) (g' := b + 2) (by omega)
              replace hs8 := hs8.other 4 (.string cf) (g' := b + 2) (by omega)
              replace hs8 := hs8.other 5 (.string dt) (g' := b + 2) (by omega)
              replace hs8 := hs8.other 6 (.slice Av mv cv) (g' := b + 2) (by omega)
              replace hr8 := hr8.other 0 (.int .i64 ht) (g' := b + 2) (by omega)
              replace hr8 := hr8.other 1 (.int .i64 hv) (g' := b + 2) (by omega)
              replace hr8 := hr8.other 2 (.int .i64 ix) (g' := b + 2) (by omega)
              replace hr8 := hr8.other 3 (.int .i64 st) (g' := b + 2) (by omega)
              replace hr8 := hr8.other 4 (.string cf) (g' := b + 2) (by omega)
              replace hr8 := hr8.other 5 (.string dt) (g' := b + 2) (by omega)
              replace hr8 := hr8.other 6 (.slice Av mv cv) (g' := b + 2) (by omega)
              have hB8 := ((((((((HBw.out.trans (hB9.mono (by omega))).setCell (p := ⟨(b + 2), 0, none⟩) (Nat.le_add_right b 2) (.int .i64 ht)).setCell (p := ⟨(b + 2), 1, none⟩) (Nat.le_add_right b 2) (.int .i64 hv)).setCell (p := ⟨(b + 2), 2, none⟩) (Nat.le_add_right b 2) (.int .i64 ix)).setCell (p := ⟨(b + 2), 3, none⟩) (Nat.le_add_right b 2) (.int .i64 st)).setCell (p := ⟨(b + 2), 4, none⟩) (Nat.le_add_right b 2) (.string cf)).setCell (p := ⟨(b + 2), 5, none⟩) (Nat.le_add_right b 2) (.string dt)).setCell (p := ⟨(b + 2), 6, none⟩) (Nat.le_add_right b 2) (.slice Av mv cv))
              have HV8 := Lib.hid (show OwnEn zs (.slice Av mv cv) _ (((((((w9.setCell ⟨(b + 2), 0, none⟩ (.int .i64 ht)).setCell ⟨(b + 2), 1, none⟩ (.int .i64 hv)).setCell ⟨(b + 2), 2, none⟩ (.int .i64 ix)).setCell ⟨(b + 2), 3, none⟩ (.int .i64 st)).setCell ⟨(b + 2), 4, none⟩ (.string cf)).setCell ⟨(b + 2), 5, none⟩ (.string dt)).setCell ⟨(b + 2), 6, none⟩ (.slice Av mv cv)) from ownsRow_setb HV9.out hx9 (by decide) _ _ _ _ _ _ _)
              obtain ⟨w8, hw8⟩ : ∃ w8, (((((((w9.setCell ⟨(b + 2), 0, none⟩ (.int .i64 ht)).setCell ⟨(b + 2), 1, none⟩ (.int .i64 hv)).setCell ⟨(b + 2), 2, none⟩ (.int .i64 ix)).setCell ⟨(b + 2), 3, none⟩ (.int .i64 st)).setCell ⟨(b + 2), 4, none⟩ (.string cf)).setCell ⟨(b + 2), 5, none⟩ (.string dt)).setCell ⟨(b + 2), 6, none⟩ (.slice Av mv cv)) = w8 := ⟨_, rfl⟩
              rw [hw8] at hx8 hs8 hr8 hB8 HV8
              simp only [List.set_cons_zero, List.set_cons_succ] at hx8
              have HX8 := Lib.hid hx8
              have HS8 := Lib.hid hs8
              have HR8 := Lib.hid hr8
              have HB8 := Lib.hid hB8
              clear hx8 hs8 hr8 hB8 hx9 hs9 hr9 hy9 hB9 hHeld
              go_wp2
              go_roundw
              case rel => exact ⟨(jp + 1) + 1, Av, mv, cv, _, by go_num, by omega, HS8.out, HR8.out, HX8.out, (Ens.of_own HV8.out).mono (fun j hj _ => .inr (by have := (HV8.out.lt j hj).1; omega)), HWN2.out, HB8.out⟩
              case measure => simp [intOf]; omega
            · go_simp
              obtain ⟨we, hwee⟩ : ∃ W9, wd.alloc (.cells #[.int .i64 0, .int .i64 0, .int .i64 0, .int .i64 0, .string ⟨#[]⟩, .string ⟨#[]⟩, .slice none 0 0] 38) = W9 := ⟨_, rfl⟩
              obtain ⟨nb, hnb⟩ : ∃ nb, wd.heap.size = nb := ⟨_, rfl⟩
              have h : Below wd.heap.size wd we := by rw [← hwee]; exact below_new _ _
              have hnbr : Rt we nb 38 [.int .i64 0, .int .i64 0, .int .i64 0, .int .i64 0, .string ⟨#[]⟩, .string ⟨#[]⟩, .slice none 0 0] := by rw [← hwee, ← hnb]; exact Rt.new _ _ _
              have hSe : Below zs wr we := hSd.trans (h.mono (by rw [← HZS.out]; exact hSd.size))
              have hnz : zs ≤ nb := by rw [← hnb, ← HZS.out]; exact hSd.size
              rw [hwee, hnb]
              clear h hwee hnb
              refine hK.out _ _ ?_ (fun hHeld => ?_)
              · exact hSe
              clear hK K
              try simp only [Act.put, List.setIfInBounds_toArray, List.set_cons_zero, List.set_cons_succ]
              refine wpAnyH_ready (rs := [5]) (by kernel_rfl) (by simp) ?_
              refine AllReadyH.cons (o := { dst := some 71, op := Op.call { callee := Callee.value (Operand.func 24), args := #[Operand.tmp 66, Operand.tmp 70], argTypes := #[38, 41] }, type := 69, pos := "ref.go:284", after := #[{ on := 0, ground := Ground.data }, { on := 4, ground := Ground.data }], guard := none }) rfl (fun K hK => ?_) AllReadyH.nil
              go_simp
              go_at_call 24
              refine (rputS_any ht hv ix st cf dt (fun j => (N j ∧ j < b) ∨ b + 3 ≤ j) Ax nx cx Lx ex et kd ed _ (HEX.out.below (by rw [HZS.out]; exact hSe)) h0 h1 (by omega) nx (Nat.le_refl _) HEX2.out).mono ?_
              rintro e wf ⟨vv, rfl, hvv, h⟩
              obtain ⟨Av, cv, hvs⟩ := hvv.slice
              obtain ⟨mv, hmv⟩ : ∃ mv, (Lx.take nx ++ [(⟨ex, et, kd, ed⟩ : Ent)]).length = mv := ⟨_, rfl⟩
              rw [hmv] at hvs
              subst hvs
              obtain ⟨bq, hbq⟩ : ∃ bq, decide (nx + 1 ≤ 200) = bq := ⟨_, rfl⟩
              rw [hbq]
              replace hvv : OwnEn zs _ _ wf := hvv.down (by rw [← HZS.out]; exact hSe.size)
              have hSf : Below zs wr wf := hSe.trans (h.mono (by rw [← HZS.out]; exact hSe.size))
              replace hnbr := hnbr.below h
              clear h hmv hbq
              refine hK.out _ _ ?_ (fun hHeld => ?_)
              · exact hSf
              clear hK K
              try simp only [Act.put, List.setIfInBounds_toArray, List.set_cons_zero, List.set_cons_succ]
              refine wpAnyH_take (i := 6) (oi := { dst := some 65, op := Op.move (Operand.tmp 71), type := 69, pos := "ref.go:284", after := #[{ on := 5, ground := Ground.data }], guard := none }) (v := .tuple #[.agg #[.int .i64 ht, .int .i64 hv, .int .i64 ix, .int .i64 st, .string cf, .string dt, .slice Av mv cv], .bool bq]) rfl (by kernel_rfl) (by kernel_rfl) (by kernel_rfl) (fun _ _ _ h => h) (Or.inl ⟨by rfl, fun w hSw => ?_⟩) (by assumption) ?_
              · (try dsimp only at hSw)
                go_simp
              try simp only [Act.put, List.setIfInBounds_toArray, List.set_cons_zero, List.set_cons_succ]
              refine wpAnyH_take (i := 7) (oi := { dst := some 72, op := Op.extract (Operand.tmp 65) 0, type := 38, pos := "ref.go:284", after := #[{ on := 6, ground := Ground.data }], guard := none }) (v := .agg #[.int .i64 ht, .int .i64 hv, .int .i64 ix, .int .i64 st, .string cf, .string dt, .slice Av mv cv]) rfl (by kernel_rfl) (by kernel_rfl) (by kernel_rfl) (fun _ _ _ h => h) (Or.inl ⟨by rfl, fun w hSw => ?_⟩) (by assumption) ?_
              · (try dsimp only at hSw)
                go_simp
              try simp only [Act.put, List.setIfInBounds_toArray, List.set_cons_zero, List.set_cons_succ]
              refine wpAnyH_take (i := 8) (oi := { dst := some 73, op := Op.extract (Operand.tmp 65) 1, type := 4, pos := "ref.go:284", after := #[{ on := 6, ground := Ground.data }, { on := 10, ground := Ground.gcOnly Departure.lateStores }], guard := none }) (v := .bool bq) rfl (by kernel_rfl) (by kernel_rfl) (by kernel_rfl) (fun _ _ _ h => h) (Or.inl ⟨by rfl, fun w hSw => ?_⟩) (by assumption) ?_
              · (try dsimp only at hSw)
                go_simp
              try simp only [Act.put, List.setIfInBounds_toArray, List.set_cons_zero, List.set_cons_succ]
              have d0 := hnbr.cell (j := 0) rfl
              have e0 := hnbr.frz 0
              have d1 := hnbr.cell (j := 1) rfl
              have e1 := hnbr.frz 1
              have d2 := hnbr.cell (j := 2) rfl
              have e2 := hnbr.frz 2
              have d3 := hnbr.cell (j := 3) rfl
              have e3 := hnbr.frz 3
              have d4 := hnbr.cell (j := 4) rfl
              have e4 := hnbr.frz 4
              have d5 := hnbr.cell (j := 5) rfl
              have e5 := hnbr.frz 5
              have d6 := hnbr.cell (j := 6) rfl
              have e6 := hnbr.frz 6
              have hB9 := (((((((hSf.setCell (p := ⟨nb, 0, none⟩) hnz (.int .i64 ht)).setCell (p := ⟨nb, 1, none⟩) hnz (.int .i64 hv)).setCell (p := ⟨nb, 2, none⟩) hnz (.int .i64 ix)).setCell (p := ⟨nb, 3, none⟩) hnz (.int .i64 st)).setCell (p := ⟨nb, 4, none⟩) hnz (.string cf)).setCell (p := ⟨nb, 5, none⟩) hnz (.string dt)).setCell (p := ⟨nb, 6, none⟩) hnz (.slice Av mv cv))
              have hy9 := (((((((hnbr.set 0 (.int .i64 ht)).set 1 (.int .i64 hv)).set 2 (.int .i64 ix)).set 3 (.int .i64 st)).set 4 (.string cf)).set 5 (.string dt)).set 6 (.slice Av mv cv))
              have HV9 := Lib.hid (show OwnEn zs (.slice Av mv cv) _ (((((((wf.setCell ⟨nb, 0, none⟩ (.int .i64 ht)).setCell ⟨nb, 1, none⟩ (.int .i64 hv)).setCell ⟨nb, 2, none⟩ (.int .i64 ix)).setCell ⟨nb, 3, none⟩ (.int .i64 st)).setCell ⟨nb, 4, none⟩ (.string cf)).setCell ⟨nb, 5, none⟩ (.string dt)).setCell ⟨nb, 6, none⟩ (.slice Av mv cv)) from ownsRow_setb hvv hnbr (by decide) _ _ _ _ _ _ _)
              refine wpAnyH_ready (rs := [10]) (by kernel_rfl) (by simp) ?_
              refine AllReadyH.cons (o := { dst := none, op := Op.store 38 (Operand.tmp 8) (Operand.tmp 72), type := 0, pos := "ref.go:284", after := #[{ on := 9, ground := Ground.data }, { on := 7, ground := Ground.data }, { on := 5, ground := Ground.chain }, { on := 0, ground := Ground.phase }, { on := 1, ground := Ground.phase }, { on := 2, ground := Ground.phase }, { on := 3, ground := Ground.phase }, { on := 4, ground := Ground.phase }, { on := 5, ground := Ground.phase }, { on := 6, ground := Ground.phase }, { on := 7, ground := Ground.phase }, { on := 8, ground := Ground.textOnly Departure.lateStores }, { on := 9, ground := Ground.phase }], guard := none }) rfl (fun K hK => ?_) AllReadyH.nil
              go_simp
              obtain ⟨w9, hw9⟩ : ∃ w9, (((((((wf.setCell ⟨nb, 0, none⟩ (.int .i64 ht)).setCell ⟨nb, 1, none⟩ (.int .i64 hv)).setCell ⟨nb, 2, none⟩ (.int .i64 ix)).setCell ⟨nb, 3, none⟩ (.int .i64 st)).setCell ⟨nb, 4, none⟩ (.string cf)).setCell ⟨nb, 5, none⟩ (.string dt)).setCell ⟨nb, 6, none⟩ (.slice Av mv cv)) = w9 := ⟨_, rfl⟩
              rw [hw9] at hB9 hy9 HV9 ⊢
              simp only [List.set_cons_zero, List.set_cons_succ] at hy9
              refine hK.out _ _ ?_ (fun hHeld => ?_)
              · exact hB9
              clear hK K hw9 d0 e0 d1 e1 d2 e2 d3 e3 d4 e4 d5 e5 d6 e6 hvv
              try simp only [Act.put, List.setIfInBounds_toArray, List.set_cons_zero, List.set_cons_succ]
              refine wpAnyH_take (i := 11) (oi := { dst := some 9, op := Op.assign (Operand.tmp 73), type := 4, pos := "ref.go:284", after := #[{ on := 8, ground := Ground.data }, { on := 10, ground := Ground.chain }, { on := 0, ground := Ground.phase }, { on := 1, ground := Ground.phase }, { on := 2, ground := Ground.phase }, { on := 3, ground := Ground.phase }, { on := 4, ground := Ground.phase }, { on := 5, ground := Ground.phase }, { on := 6, ground := Ground.phase }, { on := 7, ground := Ground.phase }, { on := 8, ground := Ground.phase }, { on := 9, ground := Ground.phase }, { on := 10, ground := Ground.phase }], guard := none }) (v := .bool bq) rfl (by kernel_rfl) (by kernel_rfl) (by kernel_rfl) (fun _ _ _ h => h) (Or.inl ⟨by rfl, fun w hSw => ?_⟩) (by assumption) ?_
              · (try dsimp only at hSw)
                go_simp
              try simp only [Act.put, List.setIfInBounds_toArray, List.set_cons_zero, List.set_cons_succ]
              refine wpAnyH_done (by kernel_rfl) ?_ _
              refine NoPanic.normal ?_
              have hx9 := HX.out.below (by rw [HZS.out]; exact hB9)
              have hs9 := HS.out.below (by rw [HZS.out]; exact hB9)
              have hr9 := HRR2.out.below (by rw [HZS.out]; exact hB9)
              have u0 := hy9.cell (j := 0) rfl
              have u1 := hy9.cell (j := 1) rfl
              have u2 := hy9.cell (j := 2) rfl
              have u3 := hy9.cell (j := 3) rfl
              have u4 := hy9.cell (j := 4) rfl
              have u5 := hy9.cell (j := 5) rfl
              have u6 := hy9.cell (j := 6) rfl
              have d0 := hx9.cell (j := 0) rfl
              have e0 := hx9.frz 0
              have d1 := hx9.cell (j := 1) rfl
              have e1 := hx9.frz 1
              have d2 := hx9.cell (j := 2) rfl
              have e2 := hx9.frz 2
              have d3 := hx9.cell (j := 3) rfl
              have e3 := hx9.frz 3
              have d4 := hx9.cell (j := 4) rfl
              have e4 := hx9.frz 4
              have d5 := hx9.cell (j := 5) rfl
              have e5 := hx9.frz 5
              have d6 := hx9.cell (j := 6) rfl
              have e6 := hx9.frz 6
              have hx8 := (((((((hx9.set 0 (.int .i64 ht)).set 1 (.int .i64 hv)).set 2 (.int .i64 ix)).set 3 (.int .i64 st)).set 4 (.string cf)).set 5 (.string dt)).set 6 (.slice Av mv cv))
              have hs8 := hs9
              have hr8 := hr9
              replace hs8 := hs8.other 0 (.int .i64 ht) (g' := b + 2) (by omega)
              replace hs8 := hs8.other 1 (.int .i64 hv) (g' := b + 2) (by omega)
              replace hs8 := hs8.other 2 (.int .i64 ix) (g' := b + 2) (by omega)
              replace hs8 := hs8.other 3 (.int .i64 st) (g' := b + 2) (by omega)
              replace hs8 := hs8.other 4 (.string cf) (g' := b + 2) (by omega)
              replace hs8 := hs8.other 5 (.string dt) (g' := b + 2) (by omega)
              replace hs8 := hs8.other 6 (.slice Av mv cv) (g' := b + 2) (by omega)
              replace hr8 := hr8.other 0 (.int .i64 ht) (g' := b + 2) (by omega)
              replace hr8 := hr8.other 1 (.int .i64 hv) (g' := b + 2) (by omega)
              replace hr8 := hr8.other 2 (.int .i64 ix) (g' := b + 2) (by omega)
              replace hr8 := hr8.other 3 (.int .i64 st) (g' := b + 2) (by omega)
              replace hr8 := hr8.other 4 (.string cf) (g' := b + 2) (by omega)
              replace hr8 := hr8.other 5 (.string dt) (g' := b + 2) (by omega)
              replace hr8 := hr8.other 6 (.slice Av mv cv) (g' := b + 2) (by omega)
              have hB8 := ((((((((HBw.out.trans (hB9.mono (by omega))).setCell (p := ⟨(b + 2), 0, none⟩) (Nat.le_add_right b 2) (.int .i64 ht)).setCell (p := ⟨(b + 2), 1, none⟩) (Nat.le_add_right b 2) (.int .i64 hv)).setCell (p := ⟨(b + 2), 2, none⟩) (Nat.le_add_right b 2) (.int .i64 ix)).setCell (p := ⟨(b + 2), 3, none⟩) (Nat.le_add_right b 2) (.int .i64 st)).setCell (p := ⟨(b + 2), 4, none⟩) (Nat.le_add_right b 2) (.string cf)).setCell (p := ⟨(b + 2), 5, none⟩) (Nat.le_add_right b 2) (.string dt)).setCell (p := ⟨(b + 2), 6, none⟩) (Nat.le_add_right b 2) (.slice Av mv cv))
              have HV8 := Lib.hid (show OwnEn zs (.slice Av mv cv) _ (((((((w9.setCell ⟨(b + 2), 0, none⟩ (.int .i64 ht)).setCell ⟨(b + 2), 1, none⟩ (.int .i64 hv)).setCell ⟨(b + 2), 2, none⟩ (.int .i64 ix)).setCell ⟨(b + 2), 3, none⟩ (.int .i64 st)).setCell ⟨(b + 2), 4, none⟩ (.string cf)).setCell ⟨(b + 2), 5, none⟩ (.string dt)).setCell ⟨(b + 2), 6, none⟩ (.slice Av mv cv)) from ownsRow_setb HV9.out hx9 (by decide) _ _ _ _ _ _ _)
              obtain ⟨w8, hw8⟩ : ∃ w8, (((((((w9.setCell ⟨(b + 2), 0, none⟩ (.int .i64 ht)).setCell ⟨(b + 2), 1, none⟩ (.int .i64 hv)).setCell ⟨(b + 2), 2, none⟩ (.int .i64 ix)).setCell ⟨(b + 2), 3, none⟩ (.int .i64 st)).setCell ⟨(b + 2), 4, none⟩ (.string cf)).setCell ⟨(b + 2), 5, none⟩ (.string dt)).setCell ⟨(b + 2), 6, none⟩ (.slice Av mv cv)) = w8 := ⟨_, rfl⟩
              rw [hw8] at hx8 hs8 hr8 hB8 HV8
              simp only [List.set_cons_zero, List.set_cons_succ] at hx8
              have HX8 := Lib.hid hx8
              have HS8 := Lib.hid hs8
              have HR8 := Lib.hid hr8
              have HB8 := Lib.hid hB8
              clear hx8 hs8 hr8 hB8 hx9 hs9 hr9 hy9 hB9 hHeld
              go_wp2
              go_roundw
              case rel => exact ⟨(jp + 1) + 1, Av, mv, cv, _, by go_num, by omega, HS8.out, HR8.out, HX8.out, (Ens.of_own HV8.out).mono (fun j hj _ => .inr (by have := (HV8.out.lt j hj).1; omega)), HWN2.out, HB8.out⟩
              case measure => simp [intOf]; omega
          · have hne1 : (ex != px + 1) = true := by simpa using hrow
            go_wp2_with fail
            have hS0 : Below zs wr wr.drew := (Below.refl _ _).drew
            refine wp_region_noPanic ?_
            refine wp_region_held_drew (S := fun W => Below zs wr W) (by kernel_rfl) ?_ (fun hHeld => ?_)
            · exact hS0
            generalize wr.drew = wa at *
            refine wpAnyH_take (i := 0) (oi := { dst := some 17, op := Op.move (Operand.tmp 1), type := 22, pos := "ref.go:281", after := #[], guard := none }) (v := .slice (some ⟨g, o, none⟩) m c2) rfl (by kernel_rfl) (by kernel_rfl) (by kernel_rfl) (fun _ _ _ h => h) (Or.inl ⟨by rfl, fun w hSw => ?_⟩) (by assumption) ?_
            · (try dsimp only at hSw)
              go_simp
            try simp only [Act.put, List.setIfInBounds_toArray, List.set_cons_zero, List.set_cons_succ]
            refine wpAnyH_take (i := 1) (oi := { dst := some 18, op := Op.move (Operand.tmp 7), type := 3, pos := "ref.go:281", after := #[], guard := none }) (v := .int .i64 ((jp : Int) + 1)) rfl (by kernel_rfl) (by kernel_rfl) (by kernel_rfl) (fun _ _ _ h => h) (Or.inl ⟨by rfl, fun w hSw => ?_⟩) (by assumption) ?_
            · (try dsimp only at hSw)
              go_simp
            try simp only [Act.put, List.setIfInBounds_toArray, List.set_cons_zero, List.set_cons_succ]
            refine wpAnyH_take (i := 2) (oi := { dst := some 19, op := Op.indexAddr 22 (Operand.tmp 17) (Operand.tmp 18), type := 0, pos := "ref.go:281", after := #[{ on := 0, ground := Ground.data }, { on := 1, ground := Ground.data }], guard := none }) (v := .pointer (some ⟨g, o + (jp + 1) * 4, none⟩)) rfl (by kernel_rfl) (by kernel_rfl) (by kernel_rfl) (fun _ _ _ h => h) (Or.inl ⟨by rfl, fun w hSw => ?_⟩) (by assumption) ?_
            · (try dsimp only at hSw)
              go_simp
            try simp only [Act.put, List.setIfInBounds_toArray, List.set_cons_zero, List.set_cons_succ]
            refine wpAnyH_take (i := 3) (oi := { dst := some 20, op := Op.load 41 (Operand.tmp 19), type := 41, pos := "ref.go:281", after := #[{ on := 2, ground := Ground.data }], guard := none }) (v := .agg #[.int .i64 ex, .int .i64 et, .int .i64 kd, .string ed]) rfl (by kernel_rfl) (by kernel_rfl) (by kernel_rfl) (fun _ _ _ h => h) (Or.inl ⟨by rfl, fun w hSw => ?_⟩) (by assumption) ?_
            · (try dsimp only at hSw)
              have q0 := (hSw.cell (p := ⟨g, o + (jp + 1) * 4, none⟩) hgz).trans c0
              have q1 := (hSw.cell (p := ⟨g, o + (jp + 1) * 4 + 1, none⟩) hgz).trans c1
              have q2 := (hSw.cell (p := ⟨g, o + (jp + 1) * 4 + 2, none⟩) hgz).trans c2'
              have q3 := (hSw.cell (p := ⟨g, o + (jp + 1) * 4 + 3, none⟩) hgz).trans c3
              go_simp
            try simp only [Act.put, List.setIfInBounds_toArray, List.set_cons_zero, List.set_cons_succ]
            refine wpAnyH_ready (rs := [4]) (by kernel_rfl) (by simp) ?_
            refine AllReadyH.cons (o := { dst := some 21, op := Op.call { callee := Callee.value (Operand.func 22), args := #[Operand.tmp 20], argTypes := #[41] }, type := 4, pos := "ref.go:281", after := #[{ on := 3, ground := Ground.data }], guard := none }) rfl (fun K hK => ?_) AllReadyH.nil
            go_simp
            go_at_call 22
            refine (HMAY.out _).mono ?_
            rintro e wb ⟨rfl, h⟩
            have hSb : Below zs wr wb := hHeld.trans (h.mono (by rw [← HZS.out]; exact hHeld.size))
            clear h
            refine hK.out _ _ ?_ (fun hHeld => ?_)
            · exact hSb
            clear hK K
            try simp only [Act.put, List.setIfInBounds_toArray, List.set_cons_zero, List.set_cons_succ]
            refine wpAnyH_take (i := 5) (oi := { dst := some 22, op := Op.unOp UnOp.not 4 (Operand.tmp 21), type := 4, pos := "ref.go:281", after := #[{ on := 4, ground := Ground.data }], guard := none }) (v := .bool false) rfl (by kernel_rfl) (by kernel_rfl) (by kernel_rfl) (fun _ _ _ h => h) (Or.inl ⟨by rfl, fun w hSw => ?_⟩) (by assumption) ?_
            · (try dsimp only at hSw)
              go_simp
            try simp only [Act.put, List.setIfInBounds_toArray, List.set_cons_zero, List.set_cons_succ]
            refine wpAnyH_take (i := 6) (oi := { dst := some 23, op := Op.move (Operand.tmp 22), type := 4, pos := "ref.go:281", after := #[{ on := 5, ground := Ground.data }, { on := 4, ground := Ground.chain }], guard := none }) (v := .bool false) rfl (by kernel_rfl) (by kernel_rfl) (by kernel_rfl) (fun _ _ _ h => h) (Or.inl ⟨by rfl, fun w hSw => ?_⟩) (by assumption) ?_
            · (try dsimp only at hSw)
              go_simp
            try simp only [Act.put, List.setIfInBounds_toArray, List.set_cons_zero, List.set_cons_succ]
            refine wpAnyH_take (i := 7) (oi := { dst := some 24, op := Op.move (Operand.tmp 7), type := 3, pos := "ref.go:281", after := #[{ on := 6, ground := Ground.guard }], guard := some (6, false) }) (v := .int .i64 ((jp : Int) + 1)) rfl (by kernel_rfl) (by kernel_rfl) (by kernel_rfl) (fun _ _ _ h => h) (Or.inl ⟨by rfl, fun w hSw => ?_⟩) (by assumption) ?_
            · (try dsimp only at hSw)
              go_simp
            try simp only [Act.put, List.setIfInBounds_toArray, List.set_cons_zero, List.set_cons_succ]
            refine wpAnyH_take (i := 8) (oi := { dst := some 25, op := Op.binOp BinOp.gtr 3 (Operand.tmp 24) (Operand.const (Value.int IntKind.i64 0)) 3, type := 4, pos := "ref.go:281", after := #[{ on := 7, ground := Ground.data }, { on := 6, ground := Ground.guard }], guard := some (6, false) }) (v := .bool true) rfl (by kernel_rfl) (by kernel_rfl) (by kernel_rfl) (fun _ _ _ h => h) (Or.inl ⟨by rfl, fun w hSw => ?_⟩) (by assumption) ?_
            · (try dsimp only at hSw)
              go_simp
            try simp only [Act.put, List.setIfInBounds_toArray, List.set_cons_zero, List.set_cons_succ]
            refine wpAnyH_take (i := 9) (oi := { dst := some 26, op := Op.move (Operand.tmp 25), type := 4, pos := "ref.go:281", after := #[{ on := 8, ground := Ground.data }, { on := 6, ground := Ground.chain }, { on := 6, ground := Ground.guard }], guard := some (6, false) }) (v := .bool true) rfl (by kernel_rfl) (by kernel_rfl) (by kernel_rfl) (fun _ _ _ h => h) (Or.inl ⟨by rfl, fun w hSw => ?_⟩) (by assumption) ?_
            · (try dsimp only at hSw)
              go_simp
            try simp only [Act.put, List.setIfInBounds_toArray, List.set_cons_zero, List.set_cons_succ]
            refine wpAnyH_take (i := 10) (oi := { dst := some 27, op := Op.move (Operand.tmp 1), type := 22, pos := "ref.go:281", after := #[{ on := 9, ground := Ground.guard }], guard := some (9, true) }) (v := .slice (some ⟨g, o, none⟩) m c2) rfl (by kernel_rfl) (by kernel_rfl) (by kernel_rfl) (fun _ _ _ h => h) (Or.inl ⟨by rfl, fun w hSw => ?_⟩) (by assumption) ?_
            · (try dsimp only at hSw)
              go_simp
            try simp only [Act.put, List.setIfInBounds_toArray, List.set_cons_zero, List.set_cons_succ]
            refine wpAnyH_take (i := 11) (oi := { dst := some 28, op := Op.move (Operand.tmp 7), type := 3, pos := "ref.go:281", after := #[{ on := 9, ground := Ground.guard }], guard := some (9, true) }) (v := .int .i64 ((jp : Int) + 1)) rfl (by kernel_rfl) (by kernel_rfl) (by kernel_rfl) (fun _ _ _ h => h) (Or.inl ⟨by rfl, fun w hSw => ?_⟩) (by assumption) ?_
            · (try dsimp only at hSw)
              go_simp
            try simp only [Act.put, List.setIfInBounds_toArray, List.set_cons_zero, List.set_cons_succ]
            refine wpAnyH_take (i := 12) (oi := { dst := some 29, op := Op.indexAddr 22 (Operand.tmp 27) (Operand.tmp 28), type := 0, pos := "ref.go:281", after := #[{ on := 10, ground := Ground.data }, { on := 11, ground := Ground.data }, { on := 9, ground := Ground.guard }], guard := some (9, true) }) (v := .pointer (some ⟨g, o + (jp + 1) * 4, none⟩)) rfl (by kernel_rfl) (by kernel_rfl) (by kernel_rfl) (fun _ _ _ h => h) (Or.inl ⟨by rfl, fun w hSw => ?_⟩) (by assumption) ?_
            · (try dsimp only at hSw)
              go_simp
            try simp only [Act.put, List.setIfInBounds_toArray, List.set_cons_zero, List.set_cons_succ]
            refine wpAnyH_take (i := 13) (oi := { dst := some 30, op := Op.fieldAddr 41 (Operand.tmp 29) 0, type := 0, pos := "ref.go:281", after := #[{ on := 12, ground := Ground.data }, { on := 9, ground := Ground.guard }], guard := some (9, true) }) (v := .pointer (some ⟨g, o + (jp + 1) * 4, none⟩)) rfl (by kernel_rfl) (by kernel_rfl) (by kernel_rfl) (fun _ _ _ h => h) (Or.inl ⟨by rfl, fun w hSw => ?_⟩) (by assumption) ?_
            · (try dsimp only at hSw)
              go_simp
            try simp only [Act.put, List.setIfInBounds_toArray, List.set_cons_zero, List.set_cons_succ]
            refine wpAnyH_take (i := 14) (oi := { dst := some 31, op := Op.load 2 (Operand.tmp 30), type := 2, pos := "ref.go:281", after := #[{ on := 13, ground := Ground.data }, { on := 9, ground := Ground.guard }], guard := some (9, true) }) (v := .int .i64 ex) rfl (by kernel_rfl) (by kernel_rfl) (by kernel_rfl) (fun _ _ _ h => h) (Or.inl ⟨by rfl, fun w hSw => ?_⟩) (by assumption) ?_
            · (try dsimp only at hSw)
              have q0 := (hSw.cell (p := ⟨g, o + (jp + 1) * 4, none⟩) hgz).trans c0
              go_simp
            try simp only [Act.put, List.setIfInBounds_toArray, List.set_cons_zero, List.set_cons_succ]
            refine wpAnyH_take (i := 15) (oi := { dst := some 32, op := Op.move (Operand.tmp 1), type := 22, pos := "ref.go:281", after := #[{ on := 9, ground := Ground.guard }], guard := some (9, true) }) (v := .slice (some ⟨g, o, none⟩) m c2) rfl (by kernel_rfl) (by kernel_rfl) (by kernel_rfl) (fun _ _ _ h => h) (Or.inl ⟨by rfl, fun w hSw => ?_⟩) (by assumption) ?_
            · (try dsimp only at hSw)
              go_simp
            try simp only [Act.put, List.setIfInBounds_toArray, List.set_cons_zero, List.set_cons_succ]
            refine wpAnyH_take (i := 16) (oi := { dst := some 33, op := Op.move (Operand.tmp 7), type := 3, pos := "ref.go:281", after := #[{ on := 9, ground := Ground.guard }], guard := some (9, true) }) (v := .int .i64 ((jp : Int) + 1)) rfl (by kernel_rfl) (by kernel_rfl) (by kernel_rfl) (fun _ _ _ h => h) (Or.inl ⟨by rfl, fun w hSw => ?_⟩) (by assumption) ?_
            · (try dsimp only at hSw)
              go_simp
            try simp only [Act.put, List.setIfInBounds_toArray, List.set_cons_zero, List.set_cons_succ]
            refine wpAnyH_take (i := 17) (oi := { dst := some 34, op := Op.binOp BinOp.sub 3 (Operand.tmp 33) (Operand.const (Value.int IntKind.i64 1)) 3, type := 3, pos := "ref.go:281", after := #[{ on := 16, ground := Ground.data }, { on := 9, ground := Ground.guard }], guard := some (9, true) }) (v := .int .i64 (jp : Int)) rfl (by kernel_rfl) (by kernel_rfl) (by kernel_rfl) (fun _ _ _ h => h) (Or.inl ⟨by rfl, fun w hSw => ?_⟩) (by assumption) ?_
            · (try dsimp only at hSw)
              go_simp
            try simp only [Act.put, List.setIfInBounds_toArray, List.set_cons_zero, List.set_cons_succ]
            refine wpAnyH_take (i := 18) (oi := { dst := some 35, op := Op.indexAddr 22 (Operand.tmp 32) (Operand.tmp 34), type := 0, pos := "ref.go:281", after := #[{ on := 15, ground := Ground.data }, { on := 17, ground := Ground.data }, { on := 9, ground := Ground.guard }], guard := some (9, true) }) (v := .pointer (some ⟨g, o + jp * 4, none⟩)) rfl (by kernel_rfl) (by kernel_rfl) (by kernel_rfl) (fun _ _ _ h => h) (Or.inl ⟨by rfl, fun w hSw => ?_⟩) (by assumption) ?_
            · (try dsimp only at hSw)
              go_simp
            try simp only [Act.put, List.setIfInBounds_toArray, List.set_cons_zero, List.set_cons_succ]
            refine wpAnyH_take (i := 19) (oi := { dst := some 36, op := Op.fieldAddr 41 (Operand.tmp 35) 0, type := 0, pos := "ref.go:281", after := #[{ on := 18, ground := Ground.data }, { on := 9, ground := Ground.guard }], guard := some (9, true) }) (v := .pointer (some ⟨g, o + jp * 4, none⟩)) rfl (by kernel_rfl) (by kernel_rfl) (by kernel_rfl) (fun _ _ _ h => h) (Or.inl ⟨by rfl, fun w hSw => ?_⟩) (by assumption) ?_
            · (try dsimp only at hSw)
              go_simp
            try simp only [Act.put, List.setIfInBounds_toArray, List.set_cons_zero, List.set_cons_succ]
            refine wpAnyH_take (i := 20) (oi := { dst := some 37, op := Op.load 2 (Operand.tmp 36), type := 2, pos := "ref.go:281", after := #[{ on := 19, ground := Ground.data }, { on := 9, ground := Ground.guard }], guard := some (9, true) }) (v := .int .i64 px) rfl (by kernel_rfl) (by kernel_rfl) (by kernel_rfl) (fun _ _ _ h => h) (Or.inl ⟨by rfl, fun w hSw => ?_⟩) (by assumption) ?_
            · (try dsimp only at hSw)
              have q0 := (hSw.cell (p := ⟨g, o + jp * 4, none⟩) hgz).trans p0
              go_simp
            try simp only [Act.put, List.setIfInBounds_toArray, List.set_cons_zero, List.set_cons_succ]
            refine wpAnyH_take (i := 21) (oi := { dst := some 38, op := Op.binOp BinOp.add 2 (Operand.tmp 37) (Operand.const (Value.int IntKind.i64 1)) 2, type := 2, pos := "ref.go:281", after := #[{ on := 20, ground := Ground.data }, { on := 9, ground := Ground.guard }], guard := some (9, true) }) (v := .int .i64 (px + 1)) rfl (by kernel_rfl) (by kernel_rfl) (by kernel_rfl) (fun _ _ _ h => h) (Or.inl ⟨by rfl, fun w hSw => ?_⟩) (by assumption) ?_
            · (try dsimp only at hSw)
              go_simp
            try simp only [Act.put, List.setIfInBounds_toArray, List.set_cons_zero, List.set_cons_succ]
            refine wpAnyH_take (i := 22) (oi := { dst := some 39, op := Op.binOp BinOp.neq 2 (Operand.tmp 31) (Operand.tmp 38) 2, type := 4, pos := "ref.go:281", after := #[{ on := 14, ground := Ground.data }, { on := 21, ground := Ground.data }, { on := 9, ground := Ground.guard }], guard := some (9, true) }) (v := .bool true) rfl (by kernel_rfl) (by kernel_rfl) (by kernel_rfl) (fun _ _ _ h => h) (Or.inl ⟨by rfl, fun w hSw => ?_⟩) (by assumption) ?_
            · (try dsimp only at hSw)
              go_simp
            try simp only [Act.put, List.setIfInBounds_toArray, List.set_cons_zero, List.set_cons_succ]
            refine wpAnyH_take (i := 23) (oi := { dst := some 40, op := Op.pick (Operand.tmp 26) (Operand.tmp 39) (Operand.const (Value.bool false)), type := 4, pos := "ref.go:281", after := #[{ on := 9, ground := Ground.data }, { on := 22, ground := Ground.data }, { on := 6, ground := Ground.guard }], guard := some (6, false) }) (v := .bool true) rfl (by kernel_rfl) (by kernel_rfl) (by kernel_rfl) (fun _ _ _ h => h) (Or.inl ⟨by rfl, fun w hSw => ?_⟩) (by assumption) ?_
            · (try dsimp only at hSw)
              go_simp
            try simp only [Act.put, List.setIfInBounds_toArray, List.set_cons_zero, List.set_cons_succ]
            refine wpAnyH_take (i := 24) (oi := { dst := some 41, op := Op.pick (Operand.tmp 23) (Operand.const (Value.bool true)) (Operand.tmp 40), type := 4, pos := "ref.go:281", after := #[{ on := 6, ground := Ground.data }, { on := 23, ground := Ground.data }], guard := none }) (v := .bool true) rfl (by kernel_rfl) (by kernel_rfl) (by kernel_rfl) (fun _ _ _ h => h) (Or.inl ⟨by rfl, fun w hSw => ?_⟩) (by assumption) ?_
            · (try dsimp only at hSw)
              go_simp
            try simp only [Act.put, List.setIfInBounds_toArray, List.set_cons_zero, List.set_cons_succ]
            refine wpAnyH_take (i := 25) (oi := { dst := some 42, op := Op.move (Operand.tmp 41), type := 4, pos := "ref.go:281", after := #[{ on := 24, ground := Ground.data }, { on := 9, ground := Ground.chain }], guard := none }) (v := .bool true) rfl (by kernel_rfl) (by kernel_rfl) (by kernel_rfl) (fun _ _ _ h => h) (Or.inl ⟨by rfl, fun w hSw => ?_⟩) (by assumption) ?_
            · (try dsimp only at hSw)
              go_simp
            try simp only [Act.put, List.setIfInBounds_toArray, List.set_cons_zero, List.set_cons_succ]
            refine wpAnyH_take (i := 26) (oi := { dst := some 43, op := Op.move (Operand.tmp 1), type := 22, pos := "ref.go:281", after := #[{ on := 25, ground := Ground.guard }], guard := some (25, false) }) (v := undef) rfl (by kernel_rfl) (by kernel_rfl) (by kernel_rfl) (fun _ _ _ h => h) (Or.inr ⟨by rfl, rfl⟩) (by assumption) ?_
            try simp only [Act.put, List.setIfInBounds_toArray, List.set_cons_zero, List.set_cons_succ]
            refine wpAnyH_take (i := 27) (oi := { dst := some 44, op := Op.move (Operand.tmp 7), type := 3, pos := "ref.go:281", after := #[{ on := 25, ground := Ground.guard }], guard := some (25, false) }) (v := undef) rfl (by kernel_rfl) (by kernel_rfl) (by kernel_rfl) (fun _ _ _ h => h) (Or.inr ⟨by rfl, rfl⟩) (by assumption) ?_
            try simp only [Act.put, List.setIfInBounds_toArray, List.set_cons_zero, List.set_cons_succ]
            refine wpAnyH_take (i := 28) (oi := { dst := some 45, op := Op.indexAddr 22 (Operand.tmp 43) (Operand.tmp 44), type := 0, pos := "ref.go:281", after := #[{ on := 26, ground := Ground.data }, { on := 27, ground := Ground.data }, { on := 25, ground := Ground.guard }], guard := some (25, false) }) (v := undef) rfl (by kernel_rfl) (by kernel_rfl) (by kernel_rfl) (fun _ _ _ h => h) (Or.inr ⟨by rfl, rfl⟩) (by assumption) ?_
            try simp only [Act.put, List.setIfInBounds_toArray, List.set_cons_zero, List.set_cons_succ]
            refine wpAnyH_take (i := 29) (oi := { dst := some 46, op := Op.fieldAddr 41 (Operand.tmp 45) 0, type := 0, pos := "ref.go:281", after := #[{ on := 28, ground := Ground.data }, { on := 25, ground := Ground.guard }], guard := some (25, false) }) (v := undef) rfl (by kernel_rfl) (by kernel_rfl) (by kernel_rfl) (fun _ _ _ h => h) (Or.inr ⟨by rfl, rfl⟩) (by assumption) ?_
            try simp only [Act.put, List.setIfInBounds_toArray, List.set_cons_zero, List.set_cons_succ]
            refine wpAnyH_take (i := 30) (oi := { dst := some 47, op := Op.load 2 (Operand.tmp 46), type := 2, pos := "ref.go:281", after := #[{ on := 29, ground := Ground.data }, { on := 25, ground := Ground.guard }], guard := some (25, false) }) (v := undef) rfl (by kernel_rfl) (by kernel_rfl) (by kernel_rfl) (fun _ _ _ h => h) (Or.inr ⟨by rfl, rfl⟩) (by assumption) ?_
            try simp only [Act.put, List.setIfInBounds_toArray, List.set_cons_zero, List.set_cons_succ]
            refine wpAnyH_take (i := 31) (oi := { dst := some 48, op := Op.fieldAddr 38 (Operand.tmp 6) 1, type := 0, pos := "ref.go:281", after := #[{ on := 25, ground := Ground.guard }], guard := some (25, false) }) (v := undef) rfl (by kernel_rfl) (by kernel_rfl) (by kernel_rfl) (fun _ _ _ h => h) (Or.inr ⟨by rfl, rfl⟩) (by assumption) ?_
            try simp only [Act.put, List.setIfInBounds_toArray, List.set_cons_zero, List.set_cons_succ]
            refine wpAnyH_take (i := 32) (oi := { dst := some 49, op := Op.fieldAddr 33 (Operand.tmp 48) 0, type := 0, pos := "ref.go:281", after := #[{ on := 31, ground := Ground.data }, { on := 25, ground := Ground.guard }], guard := some (25, false) }) (v := undef) rfl (by kernel_rfl) (by kernel_rfl) (by kernel_rfl) (fun _ _ _ h => h) (Or.inr ⟨by rfl, rfl⟩) (by assumption) ?_
            try simp only [Act.put, List.setIfInBounds_toArray, List.set_cons_zero, List.set_cons_succ]
            refine wpAnyH_take (i := 33) (oi := { dst := some 50, op := Op.load 2 (Operand.tmp 49), type := 2, pos := "ref.go:281", after := #[{ on := 32, ground := Ground.data }, { on := 25, ground := Ground.guard }], guard := some (25, false) }) (v := undef) rfl (by kernel_rfl) (by kernel_rfl) (by kernel_rfl) (fun _ _ _ h => h) (Or.inr ⟨by rfl, rfl⟩) (by assumption) ?_
            try simp only [Act.put, List.setIfInBounds_toArray, List.set_cons_zero, List.set_cons_succ]
            refine wpAnyH_take (i := 34) (oi := { dst := some 51, op := Op.binOp BinOp.leq 2 (Operand.tmp 47) (Operand.tmp 50) 2, type := 4, pos := "ref.go:281", after := #[{ on := 30, ground := Ground.data }, { on := 33, ground := Ground.data }, { on := 25, ground := Ground.guard }], guard := some (25, false) }) (v := undef) rfl (by kernel_rfl) (by kernel_rfl) (by kernel_rfl) (fun _ _ _ h => h) (Or.inr ⟨by rfl, rfl⟩) (by assumption) ?_
            try simp only [Act.put, List.setIfInBounds_toArray, List.set_cons_zero, List.set_cons_succ]
            refine wpAnyH_take (i := 35) (oi := { dst := some 52, op := Op.pick (Operand.tmp 42) (Operand.const (Value.bool true)) (Operand.tmp 51), type := 4, pos := "ref.go:281", after := #[{ on := 25, ground := Ground.data }, { on := 34, ground := Ground.data }], guard := none }) (v := .bool true) rfl (by kernel_rfl) (by kernel_rfl) (by kernel_rfl) (fun _ _ _ h => h) (Or.inl ⟨by rfl, fun w hSw => ?_⟩) (by assumption) ?_
            · (try dsimp only at hSw)
              go_simp
            try simp only [Act.put, List.setIfInBounds_toArray, List.set_cons_zero, List.set_cons_succ]
            refine wpAnyH_take (i := 36) (oi := { dst := some 53, op := Op.move (Operand.tmp 52), type := 4, pos := "ref.go:281", after := #[{ on := 35, ground := Ground.data }, { on := 25, ground := Ground.chain }], guard := none }) (v := .bool true) rfl (by kernel_rfl) (by kernel_rfl) (by kernel_rfl) (fun _ _ _ h => h) (Or.inl ⟨by rfl, fun w hSw => ?_⟩) (by assumption) ?_
            · (try dsimp only at hSw)
              go_simp
            try simp only [Act.put, List.setIfInBounds_toArray, List.set_cons_zero, List.set_cons_succ]
            refine wpAnyH_take (i := 37) (oi := { dst := some 54, op := Op.move (Operand.tmp 1), type := 22, pos := "ref.go:281", after := #[{ on := 36, ground := Ground.guard }], guard := some (36, false) }) (v := undef) rfl (by kernel_rfl) (by kernel_rfl) (by kernel_rfl) (fun _ _ _ h => h) (Or.inr ⟨by rfl, rfl⟩) (by assumption) ?_
            try simp only [Act.put, List.setIfInBounds_toArray, List.set_cons_zero, List.set_cons_succ]
            refine wpAnyH_take (i := 38) (oi := { dst := some 55, op := Op.move (Operand.tmp 7), type := 3, pos := "ref.go:281", after := #[{ on := 36, ground := Ground.guard }], guard := some (36, false) }) (v := undef) rfl (by kernel_rfl) (by kernel_rfl) (by kernel_rfl) (fun _ _ _ h => h) (Or.inr ⟨by rfl, rfl⟩) (by assumption) ?_
            try simp only [Act.put, List.setIfInBounds_toArray, List.set_cons_zero, List.set_cons_succ]
            refine wpAnyH_take (i := 39) (oi := { dst := some 56, op := Op.indexAddr 22 (Operand.tmp 54) (Operand.tmp 55), type := 0, pos := "ref.go:281", after := #[{ on := 37, ground := Ground.data }, { on := 38, ground := Ground.data }, { on := 36, ground := Ground.guard }], guard := some (36, false) }) (v := undef) rfl (by kernel_rfl) (by kernel_rfl) (by kernel_rfl) (fun _ _ _ h => h) (Or.inr ⟨by rfl, rfl⟩) (by assumption) ?_
            try simp only [Act.put, List.setIfInBounds_toArray, List.set_cons_zero, List.set_cons_succ]
            refine wpAnyH_take (i := 40) (oi := { dst := some 57, op := Op.fieldAddr 41 (Operand.tmp 56) 0, type := 0, pos := "ref.go:281", after := #[{ on := 39, ground := Ground.data }, { on := 36, ground := Ground.guard }], guard := some (36, false) }) (v := undef) rfl (by kernel_rfl) (by kernel_rfl) (by kernel_rfl) (fun _ _ _ h => h) (Or.inr ⟨by rfl, rfl⟩) (by assumption) ?_
            try simp only [Act.put, List.setIfInBounds_toArray, List.set_cons_zero, List.set_cons_succ]
            refine wpAnyH_take (i := 41) (oi := { dst := some 58, op := Op.load 2 (Operand.tmp 57), type := 2, pos := "ref.go:281", after := #[{ on := 40, ground := Ground.data }, { on := 36, ground := Ground.guard }], guard := some (36, false) }) (v := undef) rfl (by kernel_rfl) (by kernel_rfl) (by kernel_rfl) (fun _ _ _ h => h) (Or.inr ⟨by rfl, rfl⟩) (by assumption) ?_
            try simp only [Act.put, List.setIfInBounds_toArray, List.set_cons_zero, List.set_cons_succ]
            refine wpAnyH_take (i := 42) (oi := { dst := some 59, op := Op.load 38 (Operand.tmp 6), type := 38, pos := "ref.go:281", after := #[{ on := 36, ground := Ground.guard }], guard := some (36, false) }) (v := undef) rfl (by kernel_rfl) (by kernel_rfl) (by kernel_rfl) (fun _ _ _ h => h) (Or.inr ⟨by rfl, rfl⟩) (by assumption) ?_
            try simp only [Act.put, List.setIfInBounds_toArray, List.set_cons_zero, List.set_cons_succ]
            refine wpAnyH_take (i := 43) (oi := { dst := some 60, op := Op.call { callee := Callee.value (Operand.func 23), args := #[Operand.tmp 59], argTypes := #[38] }, type := 2, pos := "ref.go:281", after := #[{ on := 42, ground := Ground.data }, { on := 36, ground := Ground.chain }, { on := 36, ground := Ground.guard }], guard := some (36, false) }) (v := undef) rfl (by kernel_rfl) (by kernel_rfl) (by kernel_rfl) (fun _ _ _ h => h) (Or.inr ⟨by rfl, rfl⟩) (by assumption) ?_
            try simp only [Act.put, List.setIfInBounds_toArray, List.set_cons_zero, List.set_cons_succ]
            refine wpAnyH_take (i := 44) (oi := { dst := some 61, op := Op.binOp BinOp.add 2 (Operand.tmp 60) (Operand.const (Value.int IntKind.i64 1)) 2, type := 2, pos := "ref.go:281", after := #[{ on := 43, ground := Ground.data }, { on := 36, ground := Ground.guard }], guard := some (36, false) }) (v := undef) rfl (by kernel_rfl) (by kernel_rfl) (by kernel_rfl) (fun _ _ _ h => h) (Or.inr ⟨by rfl, rfl⟩) (by assumption) ?_
            try simp only [Act.put, List.setIfInBounds_toArray, List.set_cons_zero, List.set_cons_succ]
            refine wpAnyH_take (i := 45) (oi := { dst := some 62, op := Op.binOp BinOp.gtr 2 (Operand.tmp 58) (Operand.tmp 61) 2, type := 4, pos := "ref.go:281", after := #[{ on := 41, ground := Ground.data }, { on := 44, ground := Ground.data }, { on := 36, ground := Ground.guard }], guard := some (36, false) }) (v := undef) rfl (by kernel_rfl) (by kernel_rfl) (by kernel_rfl) (fun _ _ _ h => h) (Or.inr ⟨by rfl, rfl⟩) (by assumption) ?_
            try simp only [Act.put, List.setIfInBounds_toArray, List.set_cons_zero, List.set_cons_succ]
            refine wpAnyH_take (i := 46) (oi := { dst := some 63, op := Op.pick (Operand.tmp 53) (Operand.const (Value.bool true)) (Operand.tmp 62), type := 4, pos := "ref.go:281", after := #[{ on := 36, ground := Ground.data }, { on := 45, ground := Ground.data }], guard := none }) (v := .bool true) rfl (by kernel_rfl) (by kernel_rfl) (by kernel_rfl) (fun _ _ _ h => h) (Or.inl ⟨by rfl, fun w hSw => ?_⟩) (by assumption) ?_
            · (try dsimp only at hSw)
              go_simp
            try simp only [Act.put, List.setIfInBounds_toArray, List.set_cons_zero, List.set_cons_succ]
            refine wpAnyH_done (by kernel_rfl) ?_ _
            refine NoPanic.normal ?_
            clear hwp hne1
            have hs5 := HS.out.below (by rw [HZS.out]; exact hSb)
            have hr5 := HRR2.out.below (by rw [HZS.out]; exact hSb)
            have hB5 := HBw.out.trans (hSb.mono (by rw [← HZS.out]; have := HX.out.lt; omega))
            have u0 := hs5.cell (j := 0) rfl
            have u1 := hs5.cell (j := 1) rfl
            have u2 := hs5.cell (j := 2) rfl
            have u3 := hs5.cell (j := 3) rfl
            have u4 := hs5.cell (j := 4) rfl
            have u5 := hs5.cell (j := 5) rfl
            have u6 := hs5.cell (j := 6) rfl
            have d0 := hr5.cell (j := 0) rfl
            have e0 := hr5.frz 0
            have d1 := hr5.cell (j := 1) rfl
            have e1 := hr5.frz 1
            have d2 := hr5.cell (j := 2) rfl
            have e2 := hr5.frz 2
            have d3 := hr5.cell (j := 3) rfl
            have e3 := hr5.frz 3
            have d4 := hr5.cell (j := 4) rfl
            have e4 := hr5.frz 4
            have d5 := hr5.cell (j := 5) rfl
            have e5 := hr5.frz 5
            have d6 := hr5.cell (j := 6) rfl
            have e6 := hr5.frz 6
            have hy9 := (((((((hr5.set 0 (.int .i64 ht)).set 1 (.int .i64 hv)).set 2 (.int .i64 ix)).set 3 (.int .i64 st)).set 4 (.string cf)).set 5 (.string dt)).set 6 (.slice A n c))
            have hB9 := (((((((hB5.setCell (p := ⟨(b + 1), 0, none⟩) (Nat.le_add_right b 1) (.int .i64 ht)).setCell (p := ⟨(b + 1), 1, none⟩) (Nat.le_add_right b 1) (.int .i64 hv)).setCell (p := ⟨(b + 1), 2, none⟩) (Nat.le_add_right b 1) (.int .i64 ix)).setCell (p := ⟨(b + 1), 3, none⟩) (Nat.le_add_right b 1) (.int .i64 st)).setCell (p := ⟨(b + 1), 4, none⟩) (Nat.le_add_right b 1) (.string cf)).setCell (p := ⟨(b + 1), 5, none⟩) (Nat.le_add_right b 1) (.string dt)).setCell (p := ⟨(b + 1), 6, none⟩) (Nat.le_add_right b 1) (.slice A n c))
            obtain ⟨k9, hk9⟩ : ∃ k9, (((((((wb.setCell ⟨(b + 1), 0, none⟩ (.int .i64 ht)).setCell ⟨(b + 1), 1, none⟩ (.int .i64 hv)).setCell ⟨(b + 1), 2, none⟩ (.int .i64 ix)).setCell ⟨(b + 1), 3, none⟩ (.int .i64 st)).setCell ⟨(b + 1), 4, none⟩ (.string cf)).setCell ⟨(b + 1), 5, none⟩ (.string dt)).setCell ⟨(b + 1), 6, none⟩ (.slice A n c)) = k9 := ⟨_, rfl⟩
            rw [hk9] at hy9 hB9
            simp only [List.set_cons_zero, List.set_cons_succ] at hy9
            have HY9 := Lib.hid hy9
            have HB9 := Lib.hid hB9
            clear hy9 hB9
            go_wp2
            have hy9 := HY9.out
            have g0 := hy9.cell (j := 0) rfl
            have g1 := hy9.cell (j := 1) rfl
            have g2 := hy9.cell (j := 2) rfl
            have g3 := hy9.cell (j := 3) rfl
            have g4 := hy9.cell (j := 4) rfl
            have g5 := hy9.cell (j := 5) rfl
            have g6 := hy9.cell (j := 6) rfl
            have hwr : r = (1, k) := by rw [← HR.out]; exact write_row (by rw [← HML.out]; exact hlt) (by rw [HEJ.out, HPJ.out]; exact hrow)
            refine bodyPost_ret (v := .tuple #[.agg #[.int .i64 ht, .int .i64 hv, .int .i64 ix, .int .i64 st, .string cf, .string dt, .slice A n c], .int .i64 1]) (by simp [results, Tryd.results9, go_sem, g0, g1, g2, g3, g4, g5, g6]) rfl ⟨.slice A n c, ?_, ?_, HB9.out⟩
            · rw [hwr, ← HK.out]
            · exact by rw [hwr]; show Ens _ k9 (.slice A n c) k.log; rw [← HK.out]; exact ((HE.out.below (by rw [HBb.out]; exact HB9.out)).mono (fun j hj _ => .inl hj))
    · have hjm : j = m := by omega
      subst hjm
      have hji : ¬ (j : Int) < j := by omega
      have hx6 := HX.out.cell (j := 6) rfl
      have hwd := HWS.out
      rw [HML.out] at hwd
      have hdn := hwd.done
      rw [HR.out, ← HML.out, ← HNX.out] at hdn
      have HDN := Lib.hid hdn
      clear hwd hdn
      by_cases h200 : 200 < nx
      · have h200i : (200 : Int) < nx := by omega
        have hj0 : 0 < j := by
          have h9 := HWS.out.len
          have e1 := HNL.out
          have e2 := HNX.out
          rw [← HK.out] at h9
          simp only at h9
          omega
        have u0 := HS.out.cell (j := 0) rfl
        have u1 := HS.out.cell (j := 1) rfl
        have u2 := HS.out.cell (j := 2) rfl
        have u3 := HS.out.cell (j := 3) rfl
        have u4 := HS.out.cell (j := 4) rfl
        have u5 := HS.out.cell (j := 5) rfl
        have u6 := HS.out.cell (j := 6) rfl
        have d0 := HRR2.out.cell (j := 0) rfl
        have e0 := HRR2.out.frz 0
        have d1 := HRR2.out.cell (j := 1) rfl
        have e1 := HRR2.out.frz 1
        have d2 := HRR2.out.cell (j := 2) rfl
        have e2 := HRR2.out.frz 2
        have d3 := HRR2.out.cell (j := 3) rfl
        have e3 := HRR2.out.frz 3
        have d4 := HRR2.out.cell (j := 4) rfl
        have e4 := HRR2.out.frz 4
        have d5 := HRR2.out.cell (j := 5) rfl
        have e5 := HRR2.out.frz 5
        have d6 := HRR2.out.cell (j := 6) rfl
        have e6 := HRR2.out.frz 6
        have hy9 := (((((((HRR2.out.set 0 (.int .i64 ht)).set 1 (.int .i64 hv)).set 2 (.int .i64 ix)).set 3 (.int .i64 st)).set 4 (.string cf)).set 5 (.string dt)).set 6 (.slice A n c))
        have hB9 := (((((((HBw.out.setCell (p := ⟨(b + 1), 0, none⟩) (Nat.le_add_right b 1) (.int .i64 ht)).setCell (p := ⟨(b + 1), 1, none⟩) (Nat.le_add_right b 1) (.int .i64 hv)).setCell (p := ⟨(b + 1), 2, none⟩) (Nat.le_add_right b 1) (.int .i64 ix)).setCell (p := ⟨(b + 1), 3, none⟩) (Nat.le_add_right b 1) (.int .i64 st)).setCell (p := ⟨(b + 1), 4, none⟩) (Nat.le_add_right b 1) (.string cf)).setCell (p := ⟨(b + 1), 5, none⟩) (Nat.le_add_right b 1) (.string dt)).setCell (p := ⟨(b + 1), 6, none⟩) (Nat.le_add_right b 1) (.slice A n c))
        obtain ⟨k9, hk9⟩ : ∃ k9, (((((((wr.setCell ⟨(b + 1), 0, none⟩ (.int .i64 ht)).setCell ⟨(b + 1), 1, none⟩ (.int .i64 hv)).setCell ⟨(b + 1), 2, none⟩ (.int .i64 ix)).setCell ⟨(b + 1), 3, none⟩ (.int .i64 st)).setCell ⟨(b + 1), 4, none⟩ (.string cf)).setCell ⟨(b + 1), 5, none⟩ (.string dt)).setCell ⟨(b + 1), 6, none⟩ (.slice A n c)) = k9 := ⟨_, rfl⟩
        rw [hk9] at hy9 hB9
        simp only [List.set_cons_zero, List.set_cons_succ] at hy9
        have HY9 := Lib.hid hy9
        have HB9 := Lib.hid hB9
        clear hy9 hB9
        go_wp2
        have hy9 := HY9.out
        have g0 := hy9.cell (j := 0) rfl
        have g1 := hy9.cell (j := 1) rfl
        have g2 := hy9.cell (j := 2) rfl
        have g3 := hy9.cell (j := 3) rfl
        have g4 := hy9.cell (j := 4) rfl
        have g5 := hy9.cell (j := 5) rfl
        have g6 := hy9.cell (j := 6) rfl
        have hwr : r = (5, k) := by rw [HDN.out, if_pos ⟨h200, hj0⟩]
        refine bodyPost_ret (v := .tuple #[.agg #[.int .i64 ht, .int .i64 hv, .int .i64 ix, .int .i64 st, .string cf, .string dt, .slice A n c], .int .i64 5]) (by simp [results, Tryd.results9, go_sem, g0, g1, g2, g3, g4, g5, g6]) rfl ⟨.slice A n c, ?_, ?_, HB9.out⟩
        · rw [hwr, ← HK.out]
        · exact by rw [hwr]; show Ens _ k9 (.slice A n c) k.log; rw [← HK.out]; exact ((HE.out.below (by rw [HBb.out]; exact HB9.out)).mono (fun j hj _ => .inl hj))
      · have h200i : ¬ (200 : Int) < nx := by omega
        have u0 := HX.out.cell (j := 0) rfl
        have u1 := HX.out.cell (j := 1) rfl
        have u2 := HX.out.cell (j := 2) rfl
        have u3 := HX.out.cell (j := 3) rfl
        have u4 := HX.out.cell (j := 4) rfl
        have u5 := HX.out.cell (j := 5) rfl
        have u6 := HX.out.cell (j := 6) rfl
        have d0 := HRR2.out.cell (j := 0) rfl
        have e0 := HRR2.out.frz 0
        have d1 := HRR2.out.cell (j := 1) rfl
        have e1 := HRR2.out.frz 1
        have d2 := HRR2.out.cell (j := 2) rfl
        have e2 := HRR2.out.frz 2
        have d3 := HRR2.out.cell (j := 3) rfl
        have e3 := HRR2.out.frz 3
        have d4 := HRR2.out.cell (j := 4) rfl
        have e4 := HRR2.out.frz 4
        have d5 := HRR2.out.cell (j := 5) rfl
        have e5 := HRR2.out.frz 5
        have d6 := HRR2.out.cell (j := 6) rfl
        have e6 := HRR2.out.frz 6
        have hy9 := (((((((HRR2.out.set 0 (.int .i64 ht)).set 1 (.int .i64 hv)).set 2 (.int .i64 ix)).set 3 (.int .i64 st)).set 4 (.string cf)).set 5 (.string dt)).set 6 (.slice Ax nx cx))
        have hB9 := (((((((HBw.out.setCell (p := ⟨(b + 1), 0, none⟩) (Nat.le_add_right b 1) (.int .i64 ht)).setCell (p := ⟨(b + 1), 1, none⟩) (Nat.le_add_right b 1) (.int .i64 hv)).setCell (p := ⟨(b + 1), 2, none⟩) (Nat.le_add_right b 1) (.int .i64 ix)).setCell (p := ⟨(b + 1), 3, none⟩) (Nat.le_add_right b 1) (.int .i64 st)).setCell (p := ⟨(b + 1), 4, none⟩) (Nat.le_add_right b 1) (.string cf)).setCell (p := ⟨(b + 1), 5, none⟩) (Nat.le_add_right b 1) (.string dt)).setCell (p := ⟨(b + 1), 6, none⟩) (Nat.le_add_right b 1) (.slice Ax nx cx))
        obtain ⟨k9, hk9⟩ : ∃ k9, (((((((wr.setCell ⟨(b + 1), 0, none⟩ (.int .i64 ht)).setCell ⟨(b + 1), 1, none⟩ (.int .i64 hv)).setCell ⟨(b + 1), 2, none⟩ (.int .i64 ix)).setCell ⟨(b + 1), 3, none⟩ (.int .i64 st)).setCell ⟨(b + 1), 4, none⟩ (.string cf)).setCell ⟨(b + 1), 5, none⟩ (.string dt)).setCell ⟨(b + 1), 6, none⟩ (.slice Ax nx cx)) = k9 := ⟨_, rfl⟩
        rw [hk9] at hy9 hB9
        simp only [List.set_cons_zero, List.set_cons_succ] at hy9
        have HY9 := Lib.hid hy9
        have HE9 := Lib.hid (show Ens (fun j => N j ∨ b ≤ j) k9 (.slice Ax nx cx) Lx by rw [← hk9]; exact (ens_set7 HEX.out (by omega) _ _ _ _ _ _ _).mono (fun j hj _ => hj.elim (fun h => .inl h.1) (fun h => .inr (by omega))))
        have HB9 := Lib.hid hB9
        clear hy9 hB9
        go_wp2
        have hy9 := HY9.out
        have g0 := hy9.cell (j := 0) rfl
        have g1 := hy9.cell (j := 1) rfl
        have g2 := hy9.cell (j := 2) rfl
        have g3 := hy9.cell (j := 3) rfl
        have g4 := hy9.cell (j := 4) rfl
        have g5 := hy9.cell (j := 5) rfl
        have g6 := hy9.cell (j := 6) rfl
        have hwr : r = (0, ⟨k.ht, k.hv, k.s, Lx⟩) := by rw [HDN.out, if_neg (fun h => h200 h.1)]
        refine bodyPost_ret (v := .tuple #[.agg #[.int .i64 ht, .int .i64 hv, .int .i64 ix, .int .i64 st, .string cf, .string dt, .slice Ax nx cx], .int .i64 0]) (by simp [results, Tryd.results9, go_sem, g0, g1, g2, g3, g4, g5, g6]) rfl ⟨.slice Ax nx cx, ?_, ?_, HB9.out⟩
        · rw [hwr, ← HK.out]
        · exact by rw [hwr]; exact HE9.out
end Go.Proofs.YtbiecoifeeikpaaDoor
