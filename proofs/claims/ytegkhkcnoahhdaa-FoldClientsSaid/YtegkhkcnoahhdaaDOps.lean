/-
  The reference's Encode writes a document as the plain function says, in new memory.
  The pairs are at most 1,000; their texts have at most 1,000,000 bytes.
-/
import Derived.Test.YtegkhkcnoahhdaaReDocSet
import Derived.Test.YtegkhkcnoahhdaaOpPlain
import Derived.Deep.RegionHeld3
import Derived.Test.YtegkhkcnoahhdaaDPlace
import Derived.Test.YtegkhkcnoahhdaaOpPut
set_option linter.unusedSimpArgs false
set_option linter.unusedVariables false
namespace Go.Proofs.Ytegkhkcnoahhdaa
open Go.RowKit
set_option maxRecDepth 100000

def bytesP (p : Par) : List UInt8 := Nu.putT p.k.data.toList ++ putR p.v
def bytesD (l : List Par) : List UInt8 := Nu.put (l.length : Int) ++ l.flatMap bytesP
def Par.ok (p : Par) : Prop := p.k.size ≤ 1000000 ∧ p.v.ok
theorem five_below {w w' : World} {C a g oa ob oc od oe : Nat} {va vb vc vd ve : Value} (hb : Below C w w') (ha : a < C) (hg : g < C)
    (k : w.cell? ⟨a, oa, Option.none⟩ = some va ∧ w.cell? ⟨g, ob, Option.none⟩ = some vb ∧ w.cell? ⟨g, oc, Option.none⟩ = some vc ∧ w.cell? ⟨g, od, Option.none⟩ = some vd ∧ w.cell? ⟨g, oe, Option.none⟩ = some ve) :
    w'.cell? ⟨a, oa, Option.none⟩ = some va ∧ w'.cell? ⟨g, ob, Option.none⟩ = some vb ∧ w'.cell? ⟨g, oc, Option.none⟩ = some vc ∧ w'.cell? ⟨g, od, Option.none⟩ = some vd ∧ w'.cell? ⟨g, oe, Option.none⟩ = some ve :=
  ⟨(hb.cell (p := ⟨a, oa, Option.none⟩) ha).trans k.1, (hb.cell (p := ⟨g, ob, Option.none⟩) hg).trans k.2.1, (hb.cell (p := ⟨g, oc, Option.none⟩) hg).trans k.2.2.1, (hb.cell (p := ⟨g, od, Option.none⟩) hg).trans k.2.2.2.1, (hb.cell (p := ⟨g, oe, Option.none⟩) hg).trans k.2.2.2.2⟩
end Go.Proofs.Ytegkhkcnoahhdaa
/-
  What a document has at a key: its value, and whether it is there.
  The document is a good one: its keys stand in order and may be, its values may be and are not none, it has at most 50 keys.
-/
namespace Go.Proofs.Ytegkhkcnoahhdaa
open Go.RowKit
set_option maxRecDepth 100000

/-- a document as it should be -/
structure Gd (l : List Par) : Prop where
  srt : Srt l
  len : l.length ≤ 50
  all : ∀ p ∈ l, Ru.key p.k.data.toList = true ∧ mayR p.v = true ∧ p.v.kind ≠ 0 ∧ p.v.ok
theorem Gd.key {l : List Par} (h : Gd l) : ∀ p ∈ l, p.k.size ≤ 160 := fun p hp => by
  have := Ru.key_len (h.all p hp).1
  rw [size_list] at this; exact this
theorem Gd.small {l : List Par} (h : Gd l) : Small l := fun p hp => ⟨Nat.le_trans (h.key p hp) (by decide), (h.all p hp).2.2.2.2.2⟩
theorem Gd.pars {l : List Par} (h : Gd l) : ∀ p ∈ l, p.ok := fun p hp => ⟨Nat.le_trans (h.key p hp) (by decide), (h.all p hp).2.2.2⟩
theorem gd_nil : Gd [] := ⟨List.Pairwise.nil, by simp, fun _ h => by simp at h⟩
theorem dGet_mem {l : List Par} (h : Srt l) (key : ByteArray) : ((dGet l key).1 = ⟨0, 0, ⟨#[]⟩⟩ ∧ (dGet l key).2 = false) ∨ (∃ p ∈ l, p.v = (dGet l key).1 ∧ (dGet l key).2 = true) := by
  cases hk : hasK l key with
  | false => rw [dGet_no h hk]; exact .inl ⟨rfl, rfl⟩
  | true => rw [dGet_yes h hk]; exact .inr ⟨_, List.getElem_mem (hasK_lt hk), rfl, rfl⟩
/-- what is there may be, and it is none just if nothing is there -/
theorem Gd.got {l : List Par} (h : Gd l) (key : ByteArray) : mayR (dGet l key).1 = true ∧ ((dGet l key).1.kind != 0) = (dGet l key).2 ∧ (dGet l key).1.ok := by
  rcases dGet_mem h.srt key with ⟨h1, h2⟩ | ⟨p, hp, h1, h2⟩
  · rw [h1, h2]; exact ⟨by decide, rfl, ⟨by decide, by decide⟩, ⟨by decide, by decide⟩, by decide⟩
  · rw [h2, ← h1]
    obtain ⟨_, a, b, c⟩ := h.all p hp
    exact ⟨a, by simpa using b, c⟩
set_option maxHeartbeats 1000000 in
theorem dvalue_any (B g : Nat) (l : List Par) (key : ByteArray) (x : Value) (w : World) (h : DocR w B g l) (hB : B ≤ w.heap.size) (hg : Gd l) (hks : key.size ≤ maxLen) (hx : (vaOf (dGet l key).1).ins = x) :
    Calls Try.prog 29 #[.pointer (some ⟨g, 0, none⟩), .string key] w fun e w' => e = .returned (.agg #[x]) ∧ Below w.heap.size w w' := by
  have hpl := fun W (hb : Below w.heap.size w W) => dplace_any B g l key W (h.keep hb hB) (Nat.le_trans hB hb.size) hg.srt (Nat.le_trans hg.len (by decide)) hg.small hks
  obtain ⟨hgB, v, hv, A, c, rfl, hc, hcell⟩ := h
  have hgw : g < w.heap.size := Nat.lt_of_lt_of_le hgB hB
  have hst := fun a m W => ins_store (vaOf (dGet l key).1) x hx a m W
  have HP := Lib.hid hpl
  have hbw : Below w.heap.size w (w.alloc (.cells #[.nilIface] 74)) := below_one w _
  cases hk : hasK l key with
  | true =>
    have hlt := hasK_lt hk
    have hgy := dGet_yes hg.srt hk
    obtain ⟨gr, o, rfl, hgr, hcs⟩ := hcell (by omega)
    have r1 := hcs (pos l key) hlt 1 _ (rc1 _)
    rw [show o + pos l key * 2 + 1 = o + pos l key * 2 + 1 from rfl] at r1
    rw [hgy] at hx
    rw [hx] at r1
    obtain ⟨p, hp⟩ : ∃ p, pos l key = p := ⟨_, rfl⟩
    rw [hp] at r1 hlt hpl
    rw [hk] at hpl
    obtain ⟨n, hn⟩ : ∃ n, l.length = n := ⟨_, rfl⟩
    rw [hn] at hv hlt hc
    have hpi : (p : Int) < (n : Int) := by omega
    have hgrw : gr < w.heap.size := Nat.lt_of_lt_of_le hgr hB
    have HP := Lib.hid hpl
    clear hpl hcs hcell hgy hx hk hn hp hg
    go_enter Try.func29, Try.ntmps29
    go_wp2_with fail
    refine (HP.out _ hbw).mono ?_
    rintro e k1 ⟨rfl, h⟩
    have hk : Below w.heap.size w k1 := hbw.trans (h.mono (by simp))
    replace hv : k1.cell? ⟨g, 0, none⟩ = some (.slice (some ⟨gr, o, none⟩) n c) := (hk.cell (p := ⟨g, 0, none⟩) hgw).trans hv
    replace r1 : k1.cell? ⟨gr, o + p * 2 + 1, none⟩ = some x := (hk.cell (p := ⟨gr, o + p * 2 + 1, none⟩) hgrw).trans r1
    have q0 : k1.cell? ⟨w.heap.size, 0, none⟩ = some .nilIface := (h.cell (p := ⟨w.heap.size, 0, none⟩) (by simp)).trans (by go_simp)
    have q1 : k1.frozen? ⟨w.heap.size, 0, none⟩ = false := (h.frozen (p := ⟨w.heap.size, 0, none⟩) (by simp)).trans (by go_simp)
    clear h hbw HP
    go_wp2
    exact bodyPost_ret (v := .agg #[x]) (by simp [results, Try.results29, go_sem, q0]) rfl ⟨rfl, hk.setCell (by simp) _⟩
  | false =>
    have hgn := dGet_no hg.srt hk
    rw [hgn] at hx
    have hx0 : x = .nilIface := by
      have h0 : vaOf ⟨0, 0, ⟨#[]⟩⟩ = .none := by decide
      rw [← hx, h0]; rfl
    subst hx0
    rw [hk] at hpl
    have HP := Lib.hid hpl
    clear hpl hcell hgn hx hk hg
    go_enter Try.func29, Try.ntmps29
    go_wp2_with fail
    refine (HP.out _ hbw).mono ?_
    rintro e k1 ⟨rfl, h⟩
    have hk : Below w.heap.size w k1 := hbw.trans (h.mono (by simp))
    have q0 : k1.cell? ⟨w.heap.size, 0, none⟩ = some .nilIface := (h.cell (p := ⟨w.heap.size, 0, none⟩) (by simp)).trans (by go_simp)
    have q1 : k1.frozen? ⟨w.heap.size, 0, none⟩ = false := (h.frozen (p := ⟨w.heap.size, 0, none⟩) (by simp)).trans (by go_simp)
    clear h hbw HP
    go_wp2
    exact bodyPost_ret (v := .agg #[.nilIface]) (by simp [results, Try.results29, go_sem, q0]) rfl ⟨rfl, hk.setCell (by simp) _⟩
theorem va_back {r : Raw} (h : mayR r = true) : (vaOf r).raw = r ∧ (vaOf r).len ≤ r.s.size := by
  obtain ⟨k, n, t⟩ := r
  obtain ⟨v, x, b, hv, _, hr, _, _, _, hl⟩ := va_good k n t h
  rw [hv]; exact ⟨hr, hl⟩
set_option maxHeartbeats 1000000 in
theorem dget_any (B g : Nat) (l : List Par) (key : ByteArray) (k n : Int) (t : ByteArray) (y : Bool) (w : World) (h : DocR w B g l) (hB : B ≤ w.heap.size) (hg : Gd l) (hks : key.size ≤ maxLen) (hx : dGet l key = (⟨k, n, t⟩, y)) :
    Calls Try.prog 17 #[.pointer (some ⟨g, 0, none⟩), .string key] w fun e w' => e = .returned (.tuple #[.agg #[.int .i64 k, .int .i64 n, .string t], .bool y]) ∧ Below w.heap.size w w' := by
  obtain ⟨hm, hky, hok⟩ := hg.got key
  rw [hx] at hm hky hok
  obtain ⟨hr, hl⟩ := va_back hm
  obtain ⟨v, hv⟩ : ∃ v, vaOf ⟨k, n, t⟩ = v := ⟨_, rfl⟩
  rw [hv] at hr hl
  have hval := fun W (hb : Below w.heap.size w W) => dvalue_any B g l key v.ins W (h.keep hb hB) (Nat.le_trans hB hb.size) hg hks (by rw [hx, hv])
  have hraw := fun W => vraw_is (.agg #[v.ins]) v k n t W rfl hr (Nat.le_trans hl hok.2.2)
  obtain ⟨x, hxx⟩ : ∃ x, v.ins = x := ⟨_, rfl⟩
  rw [hxx] at hval hraw
  have hgp : g < w.heap.size := Nat.lt_of_lt_of_le h.1 hB
  have HV := Lib.hid hval
  have HR := Lib.hid hraw
  have hky2 : (k != 0) = y := hky
  have HK := Lib.hid hky2
  have hbw : Below w.heap.size w (w.alloc (.cells #[.int .i64 0, .int .i64 0, .string ⟨#[]⟩] 36)) := below_one w _
  clear hm hky hok hr hl hval hraw hxx hx hky2 h hg
  go_enter Try.func17, Try.ntmps17
  go_wp2_with fail
  refine (HV.out _ hbw).mono ?_
  rintro e k1 ⟨rfl, h⟩
  have hk : Below w.heap.size w k1 := hbw.trans (h.mono (by simp))
  have hz := h.size
  simp at hz
  have q0 : k1.cell? ⟨w.heap.size, 0, none⟩ = some (.int .i64 0) := (h.cell (p := ⟨w.heap.size, 0, none⟩) (by simp)).trans (by go_simp)
  have q1 : k1.cell? ⟨w.heap.size, 1, none⟩ = some (.int .i64 0) := (h.cell (p := ⟨w.heap.size, 1, none⟩) (by simp)).trans (by go_simp)
  have q2 : k1.cell? ⟨w.heap.size, 2, none⟩ = some (.string ⟨#[]⟩) := (h.cell (p := ⟨w.heap.size, 2, none⟩) (by simp)).trans (by go_simp)
  have f0 : k1.frozen? ⟨w.heap.size, 0, none⟩ = false := (h.frozen (p := ⟨w.heap.size, 0, none⟩) (by simp)).trans (by go_simp)
  have f1 : k1.frozen? ⟨w.heap.size, 1, none⟩ = false := (h.frozen (p := ⟨w.heap.size, 1, none⟩) (by simp)).trans (by go_simp)
  have f2 : k1.frozen? ⟨w.heap.size, 2, none⟩ = false := (h.frozen (p := ⟨w.heap.size, 2, none⟩) (by simp)).trans (by go_simp)
  clear h hbw
  go_wp2_with fail
  refine (HR.out _).mono ?_
  rintro e k2 ⟨rfl, h⟩
  replace q0 := (h.cell (p := ⟨w.heap.size, 0, none⟩) (by show w.heap.size < _; omega)).trans q0
  replace q1 := (h.cell (p := ⟨w.heap.size, 1, none⟩) (by show w.heap.size < _; omega)).trans q1
  replace q2 := (h.cell (p := ⟨w.heap.size, 2, none⟩) (by show w.heap.size < _; omega)).trans q2
  replace f0 := (h.frozen (p := ⟨w.heap.size, 0, none⟩) (by show w.heap.size < _; omega)).trans f0
  replace f1 := (h.frozen (p := ⟨w.heap.size, 1, none⟩) (by show w.heap.size < _; omega)).trans f1
  replace f2 := (h.frozen (p := ⟨w.heap.size, 2, none⟩) (by show w.heap.size < _; omega)).trans f2
  replace hk : Below w.heap.size w k2 := hk.trans (h.mono hk.size)
  have hz2 := h.size
  clear h
  have hNk : w.heap.size < k2.heap.size := by omega
  obtain ⟨K3, hK3, q0b, q1b, q2b, f0b, f1b, f2b, r0, r1, r2, hk3⟩ : ∃ K3, k2.alloc (Obj.cells #[Value.int IntKind.i64 k, Value.int IntKind.i64 n, Value.string t] 36) = K3 ∧ K3.cell? ⟨w.heap.size, 0, none⟩ = some (.int .i64 0) ∧ K3.cell? ⟨w.heap.size, 1, none⟩ = some (.int .i64 0) ∧ K3.cell? ⟨w.heap.size, 2, none⟩ = some (.string ⟨#[]⟩) ∧ K3.frozen? ⟨w.heap.size, 0, none⟩ = false ∧ K3.frozen? ⟨w.heap.size, 1, none⟩ = false ∧ K3.frozen? ⟨w.heap.size, 2, none⟩ = false ∧ K3.cell? ⟨k2.heap.size, 0, none⟩ = some (.int .i64 k) ∧ K3.cell? ⟨k2.heap.size, 1, none⟩ = some (.int .i64 n) ∧ K3.cell? ⟨k2.heap.size, 2, none⟩ = some (.string t) ∧ Below w.heap.size w K3 := ⟨_, rfl, by go_simp, by go_simp, by go_simp, by go_simp, by go_simp, by go_simp, by go_simp, by go_simp, by go_simp, hk.alloc hk.size _⟩
  obtain ⟨G, hG⟩ : ∃ G, k2.heap.size = G := ⟨_, rfl⟩
  rw [hG] at r0 r1 r2 hNk
  have hGn : G ≠ w.heap.size := by omega
  clear q0 q1 q2 f0 f1 f2 hk
  go_wp2_with fail
  go_region
  go_wp2
  refine bodyPost_ret (v := .tuple #[.agg #[.int .i64 k, .int .i64 n, .string t], .bool y]) ?_ rfl ⟨rfl, ?_⟩
  · simp [results, Try.results17, go_sem, q0b, q1b, q2b, HK.out]
  · exact ((hk3.drew.setCell (by simp) _).setCell (by simp) _).setCell (by simp) _
end Go.Proofs.Ytegkhkcnoahhdaa
/-
  Plain facts on what an operation does to a document that is as it should be, with no program's run in them: it is as it should be behind it.
  The document's keys stand in order and may be; the operation's integers are in their ranges.
-/
namespace Go.Proofs.Ytegkhkcnoahhdaa
open Go.RowKit
set_option maxRecDepth 100000

/-- the error of an operation on the pairs x -/
def opErr (x : List Par) (o : Opn) : Nat :=
  if mayO o = false then 1
  else if o.kind = 3 ∧ eqR (dGet x o.key).1 o.old = false then 8
  else if o.kind = 4 ∧ (dGet x o.key).2 = true ∧ (dGet x o.key).1.kind ≠ 1 then 7
  else if o.kind = 4 ∧ (farB (dGet x o.key).1.n = true ∨ farB ((dGet x o.key).1.n + o.n) = true) then 4
  else if (apV (dGet x o.key).1 o).kind ≠ 0 ∧ (dGet x o.key).2 = false ∧ 50 ≤ x.length then 6
  else 0
/-- the pairs behind an operation that has no error -/
def opDo (x : List Par) (o : Opn) : List Par := dSet x o.key (apV (dGet x o.key).1 o)
theorem apGo_cons (d0 x : List Par) (o : Opn) (t : List Opn) : apGo d0 x (o :: t) = if opErr x o = 0 then apGo d0 (opDo x o) t else (d0, opErr x o) := by
  rw [apGo]
  unfold opErr opDo
  split
  · rfl
  split
  · rfl
  split
  · rfl
  split
  · rfl
  split
  · rfl
  · rfl
theorem mayR_zR : mayR zR = true := by decide
theorem zR_ok : zR.ok := ⟨by decide, by decide, by decide⟩
theorem mayO_val {o : Opn} (h : mayO o = true) : Ru.key o.key.data.toList = true ∧ mayR o.val = true ∧ mayR o.old = true ∧ (o.kind = 4 → -1099511627776 ≤ o.n ∧ o.n ≤ 1099511627776 ∧ o.val = zR) ∧ (o.kind = 1 ∨ o.kind = 2 ∨ o.kind = 3 ∨ o.kind = 4) := by
  obtain ⟨k, y, v, q, n⟩ := o
  unfold mayO at h
  rw [Bool.and_eq_true] at h
  refine ⟨h.1, ?_⟩
  have h2 := h.2
  unfold mayKind at h2
  simp only at h2 ⊢
  by_cases h1 : k = 1
  · subst h1; simp at h2
    exact ⟨h2.1.1.2, by rw [zR_of h2.1.2]; exact mayR_zR, fun e => by omega, by omega⟩
  · rw [if_neg h1] at h2
    by_cases h1 : k = 2
    · subst h1; simp at h2
      exact ⟨by rw [zR_of h2.1.1]; exact mayR_zR, by rw [zR_of h2.1.2]; exact mayR_zR, fun e => by omega, by omega⟩
    · rw [if_neg h1] at h2
      by_cases h1 : k = 3
      · subst h1; simp at h2
        exact ⟨h2.1.1.1, h2.1.1.2, fun e => by omega, by omega⟩
      · rw [if_neg h1] at h2
        by_cases h1 : k = 4
        · subst h1; simp at h2
          exact ⟨by rw [zR_of h2.1.1.1]; exact mayR_zR, by rw [zR_of h2.1.1.2]; exact mayR_zR, fun _ => ⟨h2.1.2, h2.2, zR_of h2.1.1.1⟩, by omega⟩
        · rw [if_neg h1] at h2; cases h2
theorem farB_in {n : Int} (h : farB n = false) : -4611686018427387904 ≤ n ∧ n ≤ 4611686018427387904 := by
  unfold farB at h
  rw [Bool.or_eq_false_iff, decide_eq_false_iff_not, decide_eq_false_iff_not] at h
  omega
theorem dSet_mem {l : List Par} (h : Srt l) {key : ByteArray} {x : Raw} {p : Par} (hp : p ∈ dSet l key x) : (x.kind ≠ 0 ∧ p = ⟨key, x⟩) ∨ p ∈ l := by
  rw [dSet_is h, List.mem_append] at hp
  rcases hp with hp | hp
  · exact .inr (List.mem_of_mem_take hp)
  · rw [List.mem_append] at hp
    rcases hp with hp | hp
    · cases hk : (x.kind == 0) with
      | true => rw [hk] at hp; simp at hp
      | false =>
        rw [hk] at hp
        simp at hp
        exact .inl ⟨by simpa using hk, hp⟩
    · exact .inr (List.mem_of_mem_drop hp)
theorem dSet_lenIs {l : List Par} (h : Srt l) (key : ByteArray) (x : Raw) : (dSet l key x).length + (if hasK l key then 1 else 0) = l.length + (if x.kind == 0 then 0 else 1) := by
  rw [dSet_is h]
  have h1 := pos_le l key
  cases hk : hasK l key with
  | true =>
    have h2 := hasK_lt hk
    cases hx : (x.kind == 0) <;> simp <;> omega
  | false => cases hx : (x.kind == 0) <;> simp <;> omega
theorem Gd.set {l : List Par} (h : Gd l) {key : ByteArray} {x : Raw} (hk : Ru.key key.data.toList = true) (hm : mayR x = true) (hok : x.ok) (hl : x.kind ≠ 0 → hasK l key = false → l.length < 50) : Gd (dSet l key x) := by
  refine ⟨srt_set h.srt key x, ?_, fun p hp => ?_⟩
  · have h1 := dSet_lenIs h.srt key x
    have h2 := h.len
    cases hx : (x.kind == 0) with
    | true => rw [hx] at h1; simp at h1; omega
    | false =>
      rw [hx] at h1
      have h3 := hl (by simpa using hx)
      cases hkk : hasK l key with
      | true => rw [hkk] at h1; simp at h1; omega
      | false => rw [hkk] at h1; have := h3 hkk; simp at h1; omega
  · rcases dSet_mem h.srt hp with ⟨h0, rfl⟩ | h1
    · exact ⟨hk, hm, h0, hok⟩
    · exact h.all p h1
theorem dGet_there {l : List Par} (h : Srt l) (key : ByteArray) : (dGet l key).2 = hasK l key := by
  cases hk : hasK l key with
  | true => rw [dGet_yes h hk]
  | false => rw [dGet_no h hk]
theorem apV_good {l : List Par} (h : Gd l) {o : Opn} (hm : mayO o = true) (hok : o.ok) (h4 : o.kind = 4 → farB ((dGet l o.key).1.n + o.n) = false) : mayR (apV (dGet l o.key).1 o) = true ∧ (apV (dGet l o.key).1 o).ok := by
  unfold apV
  split
  · rename_i hk
    have h1 := farB_in (h4 hk)
    exact ⟨rfl, ⟨by show (-9223372036854775808 : Int) ≤ 1; decide, by show (1 : Int) ≤ _; decide⟩, ⟨by show _ ≤ (dGet l o.key).1.n + o.n; omega, by show (dGet l o.key).1.n + o.n ≤ _; omega⟩, by show (⟨#[]⟩ : ByteArray).size ≤ _; decide⟩
  · exact ⟨(mayO_val hm).2.1, hok.2.2.1⟩
theorem Gd.op {l : List Par} (h : Gd l) {o : Opn} (hok : o.ok) (he : opErr l o = 0) : Gd (opDo l o) := by
  unfold opErr at he
  split at he
  · cases he
  rename_i hm
  split at he
  · cases he
  split at he
  · cases he
  split at he
  · cases he
  rename_i h4
  split at he
  · cases he
  rename_i h6
  have hm2 : mayO o = true := by simpa using hm
  obtain ⟨h1, h2⟩ := apV_good h hm2 hok (fun hk => by
    cases hf : farB ((dGet l o.key).1.n + o.n) with
    | false => rfl
    | true => exact absurd ⟨hk, .inr hf⟩ h4)
  refine h.set (mayO_val hm2).1 h1 h2 (fun hx hn => ?_)
  rcases Nat.lt_or_ge l.length 50 with h7 | h7
  · exact h7
  · exact absurd ⟨hx, by rw [dGet_there h.srt]; exact hn, h7⟩ h6
theorem Gd.apGo : ∀ {os : List Opn} {d0 x : List Par}, Gd d0 → Gd x → (∀ o ∈ os, o.ok) → Gd (apGo d0 x os).1
  | [], _, _, _, h, _ => h
  | o :: t, d0, x, h0, h, hok => by
    rw [apGo_cons]
    split
    · rename_i he; exact Gd.apGo h0 (h.op (hok o (by simp)) he) (fun p hp => hok p (by simp [hp]))
    · exact h0
theorem Gd.apply {os : List Opn} {l : List Par} (h : Gd l) (hok : ∀ o ∈ os, o.ok) : Gd (dApply l os).1 := by
  unfold dApply
  split
  · exact h
  · exact Gd.apGo h h hok
end Go.Proofs.Ytegkhkcnoahhdaa
