/-
  Plain facts on documents whose keys stand in order, with no program's run in them: where a key stands, what is read there, what putting and deleting make of it.
  The conditions are that the keys stand in order.
-/
import Derived.Test.YtegkhkcnoahhdaaReApply
import Derived.Test.YtegkhkcnoahhdaaDIns
import Derived.Test.YtegkhkcnoahhdaaRuLess
import Derived.Shelf.RegionOpenPlain
import Derived.Deep.LoopGhost
import Derived.Deep.Draws
set_option linter.unusedSimpArgs false
set_option linter.unusedVariables false
namespace Go.Proofs.Ytegkhkcnoahhdaa
open Go.RowKit
set_option maxRecDepth 100000

/-- the keys stand in order, each once -/
def Srt (l : List Par) : Prop := l.Pairwise fun p q => lesB p.k q.k = true
/-- where key stands, or would -/
def pos (l : List Par) (key : ByteArray) : Nat := (l.takeWhile fun p => lesB p.k key).length
def sameK (p : Par) (key : ByteArray) : Bool := p.k.data.toList == key.data.toList
def hasK (l : List Par) (key : ByteArray) : Bool := (l[pos l key]?).any fun p => sameK p key
theorem lesB_self (a : ByteArray) : lesB a a = false := Ru.les_self _
theorem lesB_trans {a b c : ByteArray} (h : lesB a b = true) (h2 : lesB b c = true) : lesB a c = true := Ru.les_trans _ _ _ h h2
theorem lesB_asym {a b : ByteArray} (h : lesB a b = true) : lesB b a = false := by
  have := Ru.les_asym a.data.toList b.data.toList
  unfold lesB at *
  rw [h] at this; simpa using this
theorem lesB_total {a b : ByteArray} (h : lesB a b = false) (hn : a.data.toList ≠ b.data.toList) : lesB b a = true := by
  have := Ru.les_total a.data.toList b.data.toList hn
  unfold lesB at *
  rw [h] at this; simpa using this
theorem sameK_iff {p : Par} {key : ByteArray} : sameK p key = true ↔ p.k = key := by
  unfold sameK; rw [beq_iff_eq]
  exact ⟨fun h => bytes_eq h, fun h => by rw [h]⟩
theorem lesB_ne {p : Par} {key : ByteArray} (h : lesB p.k key = true) : sameK p key = false := by
  cases hs : sameK p key with
  | false => rfl
  | true => rw [sameK_iff.1 hs, lesB_self] at h; cases h
theorem pos_nil (key : ByteArray) : pos [] key = 0 := rfl
theorem pos_less {p : Par} {t : List Par} {key : ByteArray} (h : lesB p.k key = true) : pos (p :: t) key = pos t key + 1 := by simp [pos, List.takeWhile_cons, h]
theorem pos_stop {p : Par} {t : List Par} {key : ByteArray} (h : lesB p.k key = false) : pos (p :: t) key = 0 := by simp [pos, List.takeWhile_cons, h]
theorem pos_le : ∀ (l : List Par) (key : ByteArray), pos l key ≤ l.length
  | [], _ => Nat.le_refl _
  | p :: t, key => by
    cases h : lesB p.k key with
    | true => rw [pos_less h]; have := pos_le t key; simp; omega
    | false => rw [pos_stop h]; simp
theorem hasK_less {p : Par} {t : List Par} {key : ByteArray} (h : lesB p.k key = true) : hasK (p :: t) key = hasK t key := by unfold hasK; rw [pos_less h]; simp
theorem hasK_stop {p : Par} {t : List Par} {key : ByteArray} (h : lesB p.k key = false) : hasK (p :: t) key = sameK p key := by unfold hasK; rw [pos_stop h]; simp
/-- i is the place of key, if all ahead of it are less and the one there is not -/
theorem pos_is : ∀ (l : List Par) (key : ByteArray) (i : Nat), i ≤ l.length → (∀ t (h : t < l.length), t < i → lesB l[t].k key = true) → (∀ (h : i < l.length), lesB l[i].k key = false) → pos l key = i
  | [], key, i, hi, _, _ => by simp at hi; rw [hi]; rfl
  | p :: t, key, 0, _, _, h2 => pos_stop (h2 (by simp))
  | p :: t, key, i + 1, hi, h1, h2 => by
    rw [pos_less (p := p) (t := t) (key := key) (h1 0 (by simp) (by omega))]
    congr 1
    refine pos_is t key i (by simpa using hi) (fun k hk hki => ?_) (fun hi2 => ?_)
    · exact h1 (k + 1) (by simp; omega) (by omega)
    · exact h2 (by simp; omega)
theorem srt_at {l : List Par} (h : Srt l) {i j : Nat} (hij : i < j) (hj : j < l.length) : lesB (l[i]'(by omega)).k l[j].k = true := List.pairwise_iff_getElem.1 h i j (by omega) hj hij
/-- less, further ahead -/
theorem srt_down {l : List Par} (h : Srt l) (key : ByteArray) {i j : Nat} (hij : i ≤ j) (hj : j < l.length) (hl : lesB l[j].k key = true) : lesB (l[i]'(by omega)).k key = true := by
  rcases Nat.lt_or_eq_of_le hij with h1 | h1
  · exact lesB_trans (srt_at h h1 hj) hl
  · subst h1; exact hl
theorem srt_up {l : List Par} (h : Srt l) (key : ByteArray) {i j : Nat} (hij : i ≤ j) (hj : j < l.length) (hl : lesB (l[i]'(by omega)).k key = false) : lesB l[j].k key = false := by
  cases hc : lesB l[j].k key with
  | false => rfl
  | true => rw [srt_down h key hij hj hc] at hl; cases hl
theorem srt_tail {p : Par} {t : List Par} (h : Srt (p :: t)) : Srt t := (List.pairwise_cons.1 h).2
theorem srt_head {p : Par} {t : List Par} (h : Srt (p :: t)) : ∀ q ∈ t, lesB p.k q.k = true := (List.pairwise_cons.1 h).1
/-- behind a key that is not less than key, none is key -/
theorem none_behind {p : Par} {t : List Par} {key : ByteArray} (h : Srt (p :: t)) (hl : lesB p.k key = false) : ∀ q ∈ t, sameK q key = false := fun q hq => by
  cases hs : sameK q key with
  | false => rfl
  | true => have := srt_head h q hq; rw [sameK_iff.1 hs, hl] at this; cases this
theorem setGo_in (key : ByteArray) (x : Raw) : ∀ (t : List Par), (∀ q ∈ t, sameK q key = false) → setGo key x true t = t
  | [], _ => rfl
  | p :: t, h => by
    have h1 := h p (by simp)
    unfold sameK at h1
    unfold setGo
    rw [h1, Bool.true_or, setGo_in key x t (fun q hq => h q (by simp [hq]))]
    simp
theorem setGo_is (key : ByteArray) (x : Raw) (b : Bool) : ∀ (l : List Par), Srt l → setGo key x b l = l.take (pos l key) ++ ((if b then [] else [⟨key, x⟩]) ++ l.drop (pos l key + if hasK l key then 1 else 0))
  | [], _ => by simp [setGo, pos_nil]
  | p :: t, h => by
    cases hl : lesB p.k key with
    | true =>
      have h1 := lesB_ne hl
      unfold sameK at h1
      rw [pos_less hl, hasK_less hl]
      unfold setGo
      rw [hl, h1, setGo_is key x (b || !true) t (srt_tail h)]
      rw [show pos t key + 1 + (if hasK t key then 1 else 0) = pos t key + (if hasK t key then 1 else 0) + 1 by omega]
      cases b <;> simp
    | false =>
      rw [pos_stop hl, hasK_stop hl]
      unfold setGo
      rw [hl]
      have h2 := setGo_in key x t (none_behind h hl)
      have h3 : (b || !false) = true := by simp
      rw [h3, h2]
      unfold sameK
      cases b <;> cases hs : (p.k.data.toList == key.data.toList) <;> simp
theorem dSet_is {l : List Par} (h : Srt l) (key : ByteArray) (x : Raw) : dSet l key x = l.take (pos l key) ++ ((if x.kind == 0 then [] else [⟨key, x⟩]) ++ l.drop (pos l key + if hasK l key then 1 else 0)) := setGo_is key x _ l h
theorem dGet_is (key : ByteArray) : ∀ (l : List Par), Srt l → dGet l key = if h : hasK l key = true ∧ pos l key < l.length then (l[pos l key].v, true) else (⟨0, 0, ⟨#[]⟩⟩, false)
  | [], _ => by simp [dGet, pos_nil]
  | p :: t, h => by
    cases hl : lesB p.k key with
    | true =>
      have h1 := lesB_ne hl
      have e : dGet (p :: t) key = dGet t key := by unfold dGet; unfold sameK at h1; rw [List.find?_cons, h1]
      rw [e, dGet_is key t (srt_tail h)]
      simp [pos_less hl, hasK_less hl]
    | false =>
      cases hs : sameK p key with
      | true =>
        have e : dGet (p :: t) key = (p.v, true) := by unfold dGet; unfold sameK at hs; rw [List.find?_cons, hs]
        rw [e]
        simp [pos_stop hl, hasK_stop hl, hs]
      | false =>
        have e : dGet (p :: t) key = (⟨0, 0, ⟨#[]⟩⟩, false) := by
          have h2 : (p :: t).find? (fun p => p.k.data.toList == key.data.toList) = none := by
            rw [List.find?_eq_none]
            intro q hq
            rcases List.mem_cons.1 hq with rfl | hq
            · unfold sameK at hs; simpa using hs
            · have := none_behind h hl q hq; unfold sameK at this; simpa using this
          unfold dGet; rw [h2]
        rw [e]
        simp [pos_stop hl, hasK_stop hl, hs]
theorem hasK_lt {l : List Par} {key : ByteArray} (h : hasK l key = true) : pos l key < l.length := by
  unfold hasK at h
  rcases Nat.lt_or_ge (pos l key) l.length with h1 | h1
  · exact h1
  · rw [List.getElem?_eq_none h1] at h; cases h
theorem hasK_at {l : List Par} {key : ByteArray} (h : hasK l key = true) : (l[pos l key]'(hasK_lt h)).k = key := by
  have h1 := hasK_lt h
  unfold hasK at h
  rw [List.getElem?_eq_getElem h1] at h
  exact sameK_iff.1 (by simpa using h)
theorem dGet_yes {l : List Par} {key : ByteArray} (hs : Srt l) (h : hasK l key = true) : dGet l key = ((l[pos l key]'(hasK_lt h)).v, true) := by
  rw [dGet_is key l hs, dif_pos ⟨h, hasK_lt h⟩]
theorem dGet_no {l : List Par} {key : ByteArray} (hs : Srt l) (h : hasK l key = false) : dGet l key = (⟨0, 0, ⟨#[]⟩⟩, false) := by
  rw [dGet_is key l hs, dif_neg (by rw [h]; simp)]
/-- the place: less ahead of it, not less from it on -/
theorem pos_ahead : ∀ (l : List Par) (key : ByteArray) (t : Nat) (h : t < pos l key), lesB (l[t]'(Nat.lt_of_lt_of_le h (pos_le l key))).k key = true
  | p :: s, key, t, h => by
    cases hl : lesB p.k key with
    | false => rw [pos_stop hl] at h; omega
    | true =>
      cases t with
      | zero => simpa using hl
      | succ t => rw [pos_less hl] at h; simpa using pos_ahead s key t (by omega)
theorem pos_here : ∀ (l : List Par) (key : ByteArray) (h : pos l key < l.length), lesB l[pos l key].k key = false
  | p :: s, key, h => by
    cases hl : lesB p.k key with
    | false => simpa [pos_stop hl] using hl
    | true => simp only [pos_less hl, List.getElem_cons_succ]; exact pos_here s key (by rw [pos_less hl] at h; simpa using h)
/-- putting and deleting keep the order -/
theorem srt_set {l : List Par} (h : Srt l) (key : ByteArray) (x : Raw) : Srt (dSet l key x) := by
  rw [dSet_is h]
  unfold Srt
  have hT : (l.take (pos l key)).Pairwise fun p q => lesB p.k q.k = true := List.Pairwise.sublist (List.take_sublist _ _) h
  have hD : (l.drop (pos l key + if hasK l key then 1 else 0)).Pairwise fun p q => lesB p.k q.k = true := List.Pairwise.sublist (List.drop_sublist _ _) h
  have h1 : ∀ p ∈ l.take (pos l key), lesB p.k key = true := fun p hp => by
    obtain ⟨t, ht, rfl⟩ := List.getElem_of_mem hp
    rw [List.getElem_take]
    exact pos_ahead l key t (by simp at ht; omega)
  have h2 : ∀ q ∈ l.drop (pos l key + if hasK l key then 1 else 0), lesB key q.k = true := fun q hq => by
    cases hk : hasK l key with
    | true =>
      rw [hk, if_pos rfl] at hq
      obtain ⟨t, ht, rfl⟩ := List.getElem_of_mem hq
      rw [List.getElem_drop]
      rw [List.length_drop] at ht
      have := srt_at h (i := pos l key) (j := pos l key + 1 + t) (by omega) (by omega)
      rw [hasK_at hk] at this; exact this
    | false =>
      rw [hk, if_neg (by decide), Nat.add_zero] at hq
      obtain ⟨t, ht, rfl⟩ := List.getElem_of_mem hq
      rw [List.getElem_drop]
      rw [List.length_drop] at ht
      have hp : pos l key < l.length := by omega
      have hl := srt_up h key (i := pos l key) (j := pos l key + t) (by omega) (by omega) (pos_here l key hp)
      refine lesB_total hl (fun e => ?_)
      rcases Nat.eq_zero_or_pos t with rfl | ht0
      · unfold hasK at hk
        rw [List.getElem?_eq_getElem hp] at hk
        simp only [Option.any_some, sameK] at hk
        simp only [Nat.add_zero] at e
        rw [e] at hk; simp at hk
      · have := srt_at h (i := pos l key) (j := pos l key + t) (by omega) (by omega)
        rw [show (l[pos l key + t]'(by omega)).k = key from bytes_eq e, pos_here l key hp] at this
        cases this
  have hTD : ∀ p ∈ l.take (pos l key), ∀ q ∈ l.drop (pos l key + if hasK l key then 1 else 0), lesB p.k q.k = true := fun p hp q hq => lesB_trans (h1 p hp) (h2 q hq)
  rw [List.pairwise_append]
  refine ⟨hT, ?_, fun p hp q hq => ?_⟩
  · cases hx : (x.kind == 0) with
    | true => simpa using hD
    | false => exact List.pairwise_cons.2 ⟨fun q hq => h2 q hq, hD⟩
  · cases hx : (x.kind == 0) with
    | true => rw [hx] at hq; exact hTD p hp q (by simpa using hq)
    | false =>
      rw [hx] at hq
      rcases List.mem_cons.1 (by simpa using hq) with rfl | hq
      · exact h1 p hp
      · exact hTD p hp q hq
end Go.Proofs.Ytegkhkcnoahhdaa
/-
  Where a document's key stands: the document's place, found by the library's Search.
  The rows are at most 1,000; their keys have at most 1,000,000 bytes.
-/
namespace Go.Proofs.Ytegkhkcnoahhdaa
open Go.RowKit
set_option maxRecDepth 100000

/-- block g is a document of the pairs l, to be read; it and its rows lie below block B -/
def DocR (w : World) (B g : Nat) (l : List Par) : Prop := g < B ∧ ∃ v, w.cell? ⟨g, 0, none⟩ = some v ∧ Rws w B v l
theorem DocR.keep {w w' : World} {B C g : Nat} {l : List Par} (h : DocR w B g l) (hb : Below C w w') (hC : B ≤ C) : DocR w' B g l := by
  obtain ⟨hg, v, hv, hr⟩ := h
  exact ⟨hg, v, (hb.cell (p := ⟨g, 0, none⟩) (Nat.lt_of_lt_of_le hg hC)).trans hv, hr.keep hb hC⟩
theorem DocR.more {w : World} {B C g : Nat} {l : List Par} (h : DocR w B g l) (hC : B ≤ C) : DocR w C g l := by
  obtain ⟨hg, v, hv, hr⟩ := h
  exact ⟨Nat.lt_of_lt_of_le hg hC, v, hv, hr.more hC⟩
/-- the keys and the texts of a document are no monsters -/
def Small (l : List Par) : Prop := ∀ p ∈ l, p.k.size ≤ 1000000 ∧ p.v.s.size ≤ 1000000
theorem rc0 (p : Par) : p.rc[0]? = some (.string p.k) := rfl
theorem rc1 (p : Par) : p.rc[1]? = some (vaOf p.v).ins := rfl
set_option maxHeartbeats 400000 in
theorem dclosure_any (B g ba bx i : Nat) (l : List Par) (key xk : ByteArray) (b : Bool) (w : World) (h : DocR w B g l) (hi : i < l.length) (ha : w.cell? ⟨ba, 0, none⟩ = some (.pointer (some ⟨g, 0, none⟩))) (hx : w.cell? ⟨bx, 0, none⟩ = some (.string key))
    (hk : l[i].k = xk) (hks : xk.size ≤ maxLen) (hs : key.size ≤ maxLen) (hb : lesB xk key = b) :
    Calls Try.prog 66 #[.int .i64 i, .pointer (some ⟨ba, 0, none⟩), .pointer (some ⟨bx, 0, none⟩)] w (Bl (!b) w) := by
  obtain ⟨hgB, v, hv, A, c, rfl, hc, hcell⟩ := h
  obtain ⟨gr, o, rfl, hgr, hcs⟩ := hcell (by omega)
  have r0 : w.cell? ⟨gr, o + i * 2, none⟩ = some (.string xk) := by
    have := hcs i hi 0 _ (rc0 _); rw [hk] at this; simpa using this
  have hin : (i : Int) < (l.length : Int) := by omega
  obtain ⟨n, hn⟩ : ∃ n, l.length = n := ⟨_, rfl⟩
  rw [hn] at hin hv
  have lt1 := World.block_lt_of_cell? _ _ ha
  have lt2 := World.block_lt_of_cell? _ _ hx
  have lt3 := World.block_lt_of_cell? _ _ hv
  have lt4 := World.block_lt_of_cell? _ _ r0
  have HL := Lib.hid hb
  have hbl : Below w.heap.size w w.drew := (Below.refl _ _).drew
  clear hcs hcell hc hi hn hk hb
  go_enter Try.func66, Try.ntmps66
  go_wp2_with fail
  go_region_held3 (fun W => W.cell? ⟨ba, 0, none⟩ = some (.pointer (some ⟨g, 0, none⟩)) ∧ W.cell? ⟨bx, 0, none⟩ = some (.string key) ∧ W.cell? ⟨g, 0, none⟩ = some (.slice (some ⟨gr, o, none⟩) n c) ∧ W.cell? ⟨gr, o + i * 2, none⟩ = some (.string xk)) (first | exact ⟨ha, hx, hv, r0⟩ | assumption) (first | (go_at_call 67; refine (less_is xk key _ b hks hs HL.out).mono ?_; rintro e k1 ⟨rfl, h⟩; replace ha := (h.cell (p := ⟨ba, 0, none⟩) lt1).trans ha; replace hx := (h.cell (p := ⟨bx, 0, none⟩) lt2).trans hx; replace hv := (h.cell (p := ⟨g, 0, none⟩) lt3).trans hv; replace r0 := (h.cell (p := ⟨gr, o + i * 2, none⟩) lt4).trans r0; replace hbl : Below w.heap.size w k1 := hbl.trans (h.mono hbl.size); clear h))
  go_wp2
  go_ret
  exact ⟨rfl, hbl⟩
set_option maxHeartbeats 1000000 in
theorem dsearch_any (B g ba bx : Nat) (l : List Par) (key : ByteArray) (w : World) (h : DocR w B g l) (hB : B ≤ w.heap.size) (ha : w.cell? ⟨ba, 0, none⟩ = some (.pointer (some ⟨g, 0, none⟩))) (hx : w.cell? ⟨bx, 0, none⟩ = some (.string key))
    (hs : Srt l) (hl : l.length ≤ 1000) (hsm : Small l) (hks : key.size ≤ maxLen) :
    Calls Try.prog 65 #[.int .i64 l.length, .func (.func 66) #[] #[.pointer (some ⟨ba, 0, none⟩), .pointer (some ⟨bx, 0, none⟩)]] w fun e w' => e = .returned (.int .i64 (pos l key : Nat)) ∧ Below w.heap.size w w' := by
  have hclo : ∀ (i : Nat) (W : World) (b : Bool), Below w.heap.size w W → (hi : i < l.length) → lesB l[i].k key = b → Calls Try.prog 66 #[.int .i64 i, .pointer (some ⟨ba, 0, none⟩), .pointer (some ⟨bx, 0, none⟩)] W (Bl (!b) W) := fun i W b hb hi hlb =>
    dclosure_any B g ba bx i l key _ b W (h.keep hb hB) hi ((hb.cell (p := ⟨ba, 0, none⟩) (World.block_lt_of_cell? _ _ ha)).trans ha) ((hb.cell (p := ⟨bx, 0, none⟩) (World.block_lt_of_cell? _ _ hx)).trans hx) rfl (Nat.le_trans (hsm _ (List.getElem_mem hi)).1 (by decide)) hks hlb
  have hpos := fun i h0 h1 h2 => pos_is l key i h0 h1 h2
  have hup := fun (i j : Nat) (hij : i ≤ j) (hj : j < l.length) hl => srt_up hs key hij hj hl
  have hdn := fun (i j : Nat) (hij : i ≤ j) (hj : j < l.length) hl => srt_down hs key hij hj hl
  have eg : ∀ args w, (callFunc 66 args).run Try.prog w = .ok (.enter 66 args) w := fun args w => by kernel_rfl
  obtain ⟨n, hn⟩ : ∃ n, l.length = n := ⟨_, rfl⟩
  have HC := Lib.hid hclo
  have HP := Lib.hid hpos
  have HU := Lib.hid hup
  have HD := Lib.hid hdn
  rw [hn] at hl ⊢
  have HN := Lib.hid hn
  clear hclo hpos hup hdn hn h ha hx hs hsm
  go_enter Try.func65, Try.ntmps65
  go_wp2
  go_loopg [5, 6] n (fun kx s5 s6 wr => ∃ (lo hi : Nat), s5 = .int .i64 lo ∧ s6 = .int .i64 hi ∧ lo ≤ hi ∧ hi ≤ n ∧ hi - lo ≤ kx ∧ Below w.heap.size w wr ∧
    Hid ((∀ t (h : t < l.length), t < lo → lesB l[t].k key = true) ∧ (∀ t (h : t < l.length), hi ≤ t → lesB l[t].k key = false)))
  case atStart => exact ⟨0, n, rfl, rfl, Nat.zero_le _, Nat.le_refl _, by omega, Below.refl _ _, show _ ∧ _ from ⟨fun t h ht => absurd ht (Nat.not_lt_zero _), fun t h1 h2 => by have := HN.out; omega⟩⟩
  case round =>
    obtain ⟨lo, hi, rfl, rfl, hlh, hin, hg, hbl, I⟩ := hrel
    by_cases hlt : lo < hi
    · obtain ⟨m, hm⟩ : ∃ m, (lo + hi) / 2 = m := ⟨_, rfl⟩
      have hml : m < l.length := by have := HN.out; omega
      have hmc : (m : Int) = ((lo : Int) + (hi : Int)) / 2 := by omega
      cases hp : lesB l[m].k key with
      | true =>
        have hc := HC.out m _ true hbl hml hp
        rw [hmc] at hc
        have HH := Lib.hid hp
        have HM := Lib.hid hm
        clear hp
        go_wp2_with fail
        refine hc.mono ?_
        rintro e w2 ⟨rfl, hb2⟩
        replace hb2 : Below w.heap.size w w2 := hbl.trans (hb2.mono hbl.size)
        go_wp2
        go_roundg (hi - (m + 1))
        case measure => have := HM.out; omega
        case rel =>
          have hM := HM.out
          have hN := HN.out
          refine ⟨m + 1, hi, ?_, rfl, by omega, hin, Nat.le_refl _, hb2, (show _ ∧ _ from ⟨fun t h ht => HD.out t m (by omega) hml HH.out, I.out.2⟩ : Hid _)⟩
          rw [show ((m + 1 : Nat) : Int) = ((lo : Int) + (hi : Int)) / 2 + 1 by omega]
      | false =>
        have hc := HC.out m _ false hbl hml hp
        rw [hmc] at hc
        have HH := Lib.hid hp
        have HM := Lib.hid hm
        clear hp
        go_wp2_with fail
        refine hc.mono ?_
        rintro e w2 ⟨rfl, hb2⟩
        replace hb2 : Below w.heap.size w w2 := hbl.trans (hb2.mono hbl.size)
        go_wp2
        go_roundg (m - lo)
        case measure => have := HM.out; omega
        case rel =>
          have hM := HM.out
          have hN := HN.out
          refine ⟨lo, m, rfl, ?_, by omega, by omega, Nat.le_refl _, hb2, (show _ ∧ _ from ⟨I.out.1, fun t h ht => HU.out m t (by omega) h HH.out⟩ : Hid _)⟩
          rw [show ((m : Nat) : Int) = ((lo : Int) + (hi : Int)) / 2 by omega]
    · obtain rfl : hi = lo := by omega
      have hN := HN.out
      have hp := HP.out hi (by omega) I.out.1 (fun h => I.out.2 hi h (Nat.le_refl _))
      have HH := Lib.hid hp
      clear hp hN
      go_wp2
      go_ret
      exact ⟨by rw [HH.out]; rfl, hbl⟩
set_option maxHeartbeats 1000000 in
theorem dplace_any (B g : Nat) (l : List Par) (key : ByteArray) (w : World) (h : DocR w B g l) (hB : B ≤ w.heap.size) (hs : Srt l) (hl : l.length ≤ 1000) (hsm : Small l) (hks : key.size ≤ maxLen) :
    Calls Try.prog 49 #[.pointer (some ⟨g, 0, none⟩), .string key] w fun e w' => e = .returned (.tuple #[.int .i64 (pos l key : Nat), .bool (hasK l key)]) ∧ Below w.heap.size w w' := by
  have hsearch := fun W (hb : Below w.heap.size w W) ba bx ha hx => dsearch_any B g ba bx l key W (h.keep hb hB) (Nat.le_trans hB hb.size) ha hx hs hl hsm hks
  obtain ⟨hgB, v, hv, A, c, rfl, hc, hcell⟩ := h
  obtain ⟨n, hn⟩ : ∃ n, l.length = n := ⟨_, rfl⟩
  obtain ⟨p, hp⟩ : ∃ p, pos l key = p := ⟨_, rfl⟩
  obtain ⟨y, hy⟩ : ∃ y, hasK l key = y := ⟨_, rfl⟩
  have hlt : y = true → p < n := fun e => by rw [← hp, ← hn]; exact hasK_lt (hy.trans e)
  have hple : p ≤ n := by rw [← hp, ← hn]; exact pos_le l key
  have hgw : g < w.heap.size := Nat.lt_of_lt_of_le hgB hB
  have hrow : p < n → ∃ gr o xk, A = some ⟨gr, o, none⟩ ∧ gr < w.heap.size ∧ w.cell? ⟨gr, o + p * 2, none⟩ = some (.string xk) ∧ (xk.toList == key.toList) = y := fun hpn => by
    obtain ⟨gr, o, rfl, hgr, hcs⟩ := hcell (by omega)
    have hpl : pos l key < l.length := by omega
    have h1 := hcs (pos l key) hpl 0 _ (rc0 _)
    rw [show o + pos l key * 2 + 0 = o + p * 2 by omega] at h1
    refine ⟨gr, o, (l[pos l key]).k, rfl, Nat.lt_of_lt_of_le hgr hB, h1, ?_⟩
    rw [← hy]
    unfold hasK
    rw [List.getElem?_eq_getElem hpl]
    simp [sameK, ByteArray.toList_eq]
  rw [hp, hn] at hsearch
  rw [hp, hy]
  rw [hn] at hv hc hl
  have HS := Lib.hid hsearch
  have HR := Lib.hid hrow
  have HN := Lib.hid hn
  have HP := Lib.hid hp
  have HY := Lib.hid hy
  clear hsearch hrow hn hp hy hcell hs hsm
  go_enter Try.func49, Try.ntmps49
  go_wp2_with fail
  refine (HS.out _ (below_two w _ _) w.heap.size (w.heap.size + 1) (by go_simp) (by go_simp)).mono ?_
  rintro e k1 ⟨rfl, h⟩
  have hk : Below w.heap.size w k1 := (below_two w _ _).trans (h.mono (by simp; omega))
  have ha : k1.cell? ⟨w.heap.size, 0, none⟩ = some (.pointer (some ⟨g, 0, none⟩)) := (h.cell (p := ⟨w.heap.size, 0, none⟩) (by simp; omega)).trans (by go_simp)
  have hx : k1.cell? ⟨w.heap.size + 1, 0, none⟩ = some (.string key) := (h.cell (p := ⟨w.heap.size + 1, 0, none⟩) (by simp)).trans (by go_simp)
  replace hv : k1.cell? ⟨g, 0, none⟩ = some (.slice A n c) := (hk.cell (p := ⟨g, 0, none⟩) hgw).trans hv
  obtain ⟨N, hN⟩ : ∃ N, w.heap.size = N := ⟨_, rfl⟩
  rw [hN] at ha hx
  clear h
  by_cases hpn : p < n
  · obtain ⟨gr, o, xk, rfl, hgr, r0, hxy⟩ := HR.out hpn
    replace r0 : k1.cell? ⟨gr, o + p * 2, none⟩ = some (.string xk) := (hk.cell (p := ⟨gr, o + p * 2, none⟩) hgr).trans r0
    have hpi : (p : Int) < (n : Int) := by omega
    go_wp2_with fail
    go_region_held3 (fun W => W.cell? ⟨N, 0, none⟩ = some (.pointer (some ⟨g, 0, none⟩)) ∧ W.cell? ⟨N + 1, 0, none⟩ = some (.string key) ∧ W.cell? ⟨g, 0, none⟩ = some (.slice (some ⟨gr, o, none⟩) n c) ∧ W.cell? ⟨gr, o + p * 2, none⟩ = some (.string xk)) (first | exact ⟨ha, hx, hv, r0⟩ | assumption) (fail)
    go_wp2
    go_ret2
    exact ⟨rfl, hk.drew⟩
  · have hpi : decide ((p : Int) < (n : Int)) = false := by rw [decide_eq_false_iff_not]; omega
    have hpj : ¬ ((p : Int) < (n : Int)) := by omega
    have hy0 : y = false := by
      cases y with
      | false => rfl
      | true => exact absurd (hlt rfl) hpn
    subst hy0
    go_wp2_with fail
    go_region
    go_wp2
    go_ret2
    exact ⟨rfl, hk.drew⟩
end Go.Proofs.Ytegkhkcnoahhdaa
