/-
  What the program's and the document's functions do, in memory and as plain functions: SgGetC, SgPut, SgGet.
-/

import Derived.Test.YtljanfnhmhimiaaGreatSmV
import Derived.Test.YtljanfnhmhimiaaGreatSmc
import Derived.Test.YtljanfnhmhimiaaGreatSmd
import Derived.Test.YtljanfnhmhimiaaGreatSme
import Derived.Test.YtljanfnhmhimiaaGreatSmf

namespace Go.Proofs.YtljanfnhmhimiaaGreat.Sg
open Go.RowKit Go.Joins Zn Zr Dv
open Oct (Rd)
open In (At getI)
open Nu (cnt)
open Tx (getT)
open Pk (getR)

theorem told_no_I {M : Nat} {rest : List Int} (hb : Oct.IsB rest) (hl : rest.length ≤ 100000000) (h : cellsS 1 M rest = none) (cb : Nat) (a : Option Addr) (c : Nat) (W : World) (hB : BoxI W cb) (hs : Bs.Seg W a rest.length c rest) :
    Calls Tryz.prog 236 #[.agg #[.func (.func 89) #[] #[], .func (.func 90) #[] #[], .func (.func 91) #[] #[], .func (.func 93) #[] #[], .func (.func 95) #[] #[], .func (.func 140) #[] #[.pointer (some ⟨cb, 0, none⟩)]], .slice a rest.length c, .int .i64 (M : Int)] W (NoX W) := by
  obtain ⟨E, L, hR⟩ : ∃ E L, getI rest = (E, L) := ⟨_, _, rfl⟩
  refine getCells_no_I cb a rest.length c (M : Int) W ((all_no_I hR rfl hb hl cb a rest.length c (M : Int) ?_ _ (hs.grown (grown_alloc _ _)) (hB.old (Turn.alloc _ _ _))).mono fun _ _ h => noy_of h)
  unfold cellsS at h
  rw [if_pos rfl, hR] at h
  by_cases hc : E ≠ 0 ∨ L.length ≠ M
  · rcases hc with hc | hc
    · exact .inl hc
    · exact .inr (by omega)
  · rw [if_neg hc] at h; cases h
theorem told_yes_I {M : Nat} {rest : List Int} {cs : List Cel} (hb : Oct.IsB rest) (hl : rest.length ≤ 100000000) (h : cellsS 1 M rest = some cs) (cb : Nat) (a : Option Addr) (c : Nat) (W : World) (hB : BoxI W cb) (hs : Bs.Seg W a rest.length c rest) :
    Calls Tryz.prog 236 #[.agg #[.func (.func 89) #[] #[], .func (.func 90) #[] #[], .func (.func 91) #[] #[], .func (.func 93) #[] #[], .func (.func 95) #[] #[], .func (.func 140) #[] #[.pointer (some ⟨cb, 0, none⟩)]], .slice a rest.length c, .int .i64 (M : Int)] W (GotC W M cs) := by
  obtain ⟨E, L, hR⟩ : ∃ E L, getI rest = (E, L) := ⟨_, _, rfl⟩
  have hlen := (In.get_len rest hb).1
  unfold cellsS at h
  rw [if_pos rfl, hR] at h
  rw [hR] at hlen
  by_cases hc : E ≠ 0 ∨ L.length ≠ M
  · rw [if_pos hc] at h; cases h
  · rw [if_neg hc] at h
    obtain rfl := Option.some.inj h
    have h0 : E = 0 := Classical.byContradiction fun e => hc (.inl e)
    have h1 : L.length = M := Classical.byContradiction fun e => hc (.inr e)
    rw [h0] at hR
    exact getCells_yes_I cb a rest.length c M (M : Int) L h1 (by rw [← h1]; exact Nat.le_trans hlen (by decide)) W (all_yes_I hR h1 hb hl cb a rest.length c (M : Int) rfl _ (hs.grown (grown_alloc _ _)) (hB.old (Turn.alloc _ _ _)))
theorem told_no_T {M : Nat} {rest : List Int} (hb : Oct.IsB rest) (hl : rest.length ≤ 100000000) (h : cellsS 3 M rest = none) (cb : Nat) (a : Option Addr) (c : Nat) (W : World) (hB : BoxT W cb) (hs : Bs.Seg W a rest.length c rest) :
    Calls Tryz.prog 244 #[.agg #[.func (.func 105) #[] #[], .func (.func 106) #[] #[], .func (.func 107) #[] #[], .func (.func 108) #[] #[], .func (.func 109) #[] #[], .func (.func 146) #[] #[.pointer (some ⟨cb, 0, none⟩)]], .slice a rest.length c, .int .i64 (M : Int)] W (NoX W) := by
  unfold cellsS at h
  rw [if_neg (by decide), if_neg (by decide)] at h
  cases hg : getT rest with
  | none =>
    have hR : Tx.resT (getT rest) = (4, []) := by rw [hg]; rfl
    exact getCells_no_T cb a rest.length c (M : Int) W ((all_no_T hR rfl hb hl cb a rest.length c (M : Int) (.inl (by decide)) _ (hs.grown (grown_alloc _ _)) (hB.old (Turn.alloc _ _ _))).mono fun _ _ h => noy_of h)
  | some L =>
    rw [hg] at h
    dsimp only at h
    have hR : Tx.resT (getT rest) = (0, L) := by rw [hg]; rfl
    by_cases hc : L.length ≠ M
    · exact getCells_no_T cb a rest.length c (M : Int) W ((all_no_T hR rfl hb hl cb a rest.length c (M : Int) (.inr (by omega)) _ (hs.grown (grown_alloc _ _)) (hB.old (Turn.alloc _ _ _))).mono fun _ _ h => noy_of h)
    · rw [if_neg hc] at h; cases h
theorem told_yes_T {M : Nat} {rest : List Int} {cs : List Cel} (hb : Oct.IsB rest) (hl : rest.length ≤ 100000000) (h : cellsS 3 M rest = some cs) (cb : Nat) (a : Option Addr) (c : Nat) (W : World) (hB : BoxT W cb) (hs : Bs.Seg W a rest.length c rest) :
    Calls Tryz.prog 244 #[.agg #[.func (.func 105) #[] #[], .func (.func 106) #[] #[], .func (.func 107) #[] #[], .func (.func 108) #[] #[], .func (.func 109) #[] #[], .func (.func 146) #[] #[.pointer (some ⟨cb, 0, none⟩)]], .slice a rest.length c, .int .i64 (M : Int)] W (GotC W M cs) := by
  unfold cellsS at h
  rw [if_neg (by decide), if_neg (by decide)] at h
  cases hg : getT rest with
  | none => rw [hg] at h; cases h
  | some L =>
    rw [hg] at h
    dsimp only at h
    have hR : Tx.resT (getT rest) = (0, L) := by rw [hg]; rfl
    have hlen := (Tx.get_some hb hg).1.1
    by_cases hc : L.length ≠ M
    · rw [if_pos hc] at h; cases h
    · rw [if_neg hc] at h
      obtain rfl := Option.some.inj h
      have h1 : L.length = M := Classical.byContradiction hc
      exact getCells_yes_T cb a rest.length c M (M : Int) L h1 (by rw [← h1]; exact Nat.le_trans hlen (by decide)) W (all_yes_T hR h1 hb hl cb a rest.length c (M : Int) rfl _ (hs.grown (grown_alloc _ _)) (hB.old (Turn.alloc _ _ _)))
theorem told_no_B {M : Nat} {rest : List Int} (hb : Oct.IsB rest) (h : cellsS 2 M rest = none) (a : Option Addr) (c : Nat) (W : World) (hs : Bs.Seg W a rest.length c rest) :
    Calls Tryz.prog 240 #[.agg #[.func (.func 98) #[] #[], .func (.func 99) #[] #[], .func (.func 100) #[] #[], .func (.func 101) #[] #[], .func (.func 102) #[] #[], .func (.func 103) #[] #[]], .slice a rest.length c, .int .i64 (M : Int)] W (NoX W) := by
  obtain ⟨E, L, hR⟩ : ∃ E L, getR rest (M : Int) 1 = (E, L) := ⟨_, _, rfl⟩
  refine getCells_no_B a rest.length c (M : Int) W ((all_B hR rfl (Pk.fit_isB hb) a rest.length c _ (hs.grown (grown_alloc _ _))).mono fun e w' h => ?_)
  obtain ⟨a1, k1, he, _, ht⟩ := h
  refine ⟨ht, E, a1, _, k1, ?_, he⟩
  rintro rfl
  have hp := Pk.put_get rest (M : Int) 1 (Pk.fit_isB hb) (by rw [hR])
  rw [hR] at hp
  unfold cellsS at h
  rw [if_neg (by decide), if_pos rfl, hR, if_neg (by rintro (e | e); exact e rfl; exact e (by have := hp.2.1; simp only at this ⊢; omega))] at h
  cases h
theorem told_yes_B {M : Nat} {rest : List Int} {cs : List Cel} (hb : Oct.IsB rest) (h : cellsS 2 M rest = some cs) (a : Option Addr) (c : Nat) (W : World) (hs : Bs.Seg W a rest.length c rest) :
    Calls Tryz.prog 240 #[.agg #[.func (.func 98) #[] #[], .func (.func 99) #[] #[], .func (.func 100) #[] #[], .func (.func 101) #[] #[], .func (.func 102) #[] #[], .func (.func 103) #[] #[]], .slice a rest.length c, .int .i64 (M : Int)] W (GotC W M cs) := by
  obtain ⟨E, L, hR⟩ : ∃ E L, getR rest (M : Int) 1 = (E, L) := ⟨_, _, rfl⟩
  have hlen := Pk.get_len rest (M : Int) 1
  unfold cellsS at h
  rw [if_neg (by decide), if_pos rfl, hR] at h
  rw [hR] at hlen
  by_cases hc : E ≠ 0 ∨ L.length ≠ M
  · rw [if_pos hc] at h; cases h
  · rw [if_neg hc] at h
    obtain rfl := Option.some.inj h
    have h0 : E = 0 := Classical.byContradiction fun e => hc (.inl e)
    have h1 : L.length = M := Classical.byContradiction fun e => hc (.inr e)
    have hp := Pk.put_get rest (M : Int) 1 (Pk.fit_isB hb) (by rw [hR]; exact h0)
    rw [hR] at hp
    have hf := (Pk.wid_le _ 1 hp.2.2.2.nonneg).1 (by have := hp.2.2.1; omega)
    rw [h0] at hR
    exact getCells_yes_B a rest.length c M (M : Int) L (fun x hx => by have := hf x hx; omega) h1 (by rw [← h1]; exact hlen) W ((all_B hR h1 (Pk.fit_isB hb) a rest.length c _ (hs.grown (grown_alloc _ _))).mono fun e w' ⟨a1, k1, he, hs1, ht⟩ => ⟨ht, a1, k1, he, hs1⟩)
theorem cells_int {k : Int} {n : Nat} {r : List Int} {cs : List Cel} (hr : Oct.IsB r) (hcs : cellsS k n r = some cs) : IntOk cs := by
  unfold cellsS at hcs
  by_cases e1 : k = 1
  · rw [if_pos e1] at hcs
    split at hcs
    · cases hcs
    · obtain rfl := Option.some.inj hcs
      intro c hc
      obtain ⟨v, hv, rfl⟩ := List.mem_map.1 hc
      exact (In.get_len r hr).2 v hv
  · rw [if_neg e1] at hcs
    by_cases e2 : k = 2
    · rw [if_pos e2] at hcs
      split at hcs
      · cases hcs
      · rename_i hne
        obtain rfl := Option.some.inj hcs
        intro c hc
        obtain ⟨v, hv, rfl⟩ := List.mem_map.1 hc
        have hz : (getR r n 1).1 = 0 := Classical.byContradiction fun e => hne (.inl e)
        have hp := Pk.put_get r _ 1 (Pk.fit_isB hr) hz
        have hf := (Pk.wid_le _ 1 hp.2.2.2.nonneg).1 (by have := hp.2.2.1; omega)
        have := hf v hv
        show -9223372036854775808 ≤ v ∧ v ≤ 9223372036854775807
        omega
    · rw [if_neg e2] at hcs
      cases ht : getT r with
      | none => rw [ht] at hcs; cases hcs
      | some L =>
        rw [ht] at hcs
        dsimp only at hcs
        split at hcs
        · cases hcs
        · obtain rfl := Option.some.inj hcs
          intro c hc
          obtain ⟨v, hv, rfl⟩ := List.mem_map.1 hc
          show -9223372036854775808 ≤ (0 : Int) ∧ (0 : Int) ≤ 9223372036854775807
          omega

theorem getCells_any (q : Hd) (b g : Nat) (nl : List Bool) (rest : List Int) (w : World) (k1 : 1 ≤ q.kind) (k3 : q.kind ≤ 3) (hs : Bl.Seg w q.a q.n q.c nl) (hn : q.n ≤ 4096) (hz1 : q.z.cnt = (q.n : Int)) (hz2 : q.z.nul = (cnt nl : Int)) (hr : Rd w b g rest) (hab : ∀ ad, q.a = some ad → q.n ≠ 0 → ad.block ≠ b) (hrb : Oct.IsB rest) (hrl : rest.length ≤ 100000000) :
    Calls Tryz.prog 35 #[.agg #[.int .i64 q.kind, .slice q.a q.n q.c, .int .i64 q.z.cnt, .int .i64 q.z.nul, .int .i64 q.z.min.k, .int .i64 q.z.min.n, .string q.z.min.s, .int .i64 q.z.max.k, .int .i64 q.z.max.n, .string q.z.max.s], .pointer (some ⟨b, 0, none⟩)] w
      (CellsX b w q.n ((if cnt nl = nl.length then some [] else cellsS q.kind (nl.length - cnt nl) rest).map (mergeS nl))) := by
  have hl := hs.len
  have hcl := Nu.cnt_le nl
  by_cases hc : cnt nl = nl.length
  · rw [if_pos hc]
    exact getCells_none q b nl w hs hn (by omega)
  · rw [if_neg hc]
    obtain ⟨M, hM⟩ : ∃ M, M = nl.length - cnt nl := ⟨_, rfl⟩
    rw [← hM]
    rcases (by omega : q.kind = 1 ∨ q.kind = 2 ∨ q.kind = 3) with e | e | e
    · cases ho : cellsS q.kind M rest with
      | none =>
        rw [e] at ho
        exact getSeg_no_I q b g nl rest M w e hs hn (by omega) (by omega) (by omega) hr hab hrb hrl (fun cb a c W hB hs => told_no_I hrb hrl ho cb a c W hB hs)
      | some cs =>
        rw [e] at ho
        exact getSeg_yes_I q b g nl rest M cs w e hs hn (by omega) (by omega) (by omega) hr hab hrb hrl (fun cb a c W hB hs => told_yes_I hrb hrl ho cb a c W hB hs)
    · cases ho : cellsS q.kind M rest with
      | none =>
        rw [e] at ho
        exact getSeg_no_B q b g nl rest M w e hs hn (by omega) (by omega) (by omega) hr hab hrb hrl (fun a c W hs => told_no_B hrb ho a c W hs)
      | some cs =>
        rw [e] at ho
        exact getSeg_yes_B q b g nl rest M cs w e hs hn (by omega) (by omega) (by omega) hr hab hrb hrl (fun a c W hs => told_yes_B hrb ho a c W hs)
    · cases ho : cellsS q.kind M rest with
      | none =>
        rw [e] at ho
        exact getSeg_no_T q b g nl rest M w e hs hn (by omega) (by omega) (by omega) hr hab hrb hrl (fun cb a c W hB hs => told_no_T hrb hrl ho cb a c W hB hs)
      | some cs =>
        rw [e] at ho
        exact getSeg_yes_T q b g nl rest M cs w e hs hn (by omega) (by omega) (by omega) hr hab hrb hrl (fun cb a c W hB hs => told_yes_T hrb hrl ho cb a c W hB hs)
end Go.Proofs.YtljanfnhmhimiaaGreat.Sg

namespace Go.Proofs.YtljanfnhmhimiaaGreat.Sg
open Go.RowKit Go.Joins Zn Zr Dv
open Nu (encN cnt)

theorem bl_of {w : World} {base e n c : Nat} {a : Option Addr} {l : List Bool} (h : w.ownsRow base e 1 (.slice a n c) n (l.map Value.bool)) : Bl.Seg w a n c l := by
  rcases h.2 with ⟨e1, h0⟩ | ⟨g, cap, cur, e1, _⟩
  · cases e1
    have hl := h.1
    rw [List.length_map] at hl
    obtain rfl : l = [] := List.length_eq_zero_iff.1 (by omega)
    exact Bl.Seg.nil w
  · cases e1
    exact Bl.Seg.own h
theorem zb_wrote {w w' : World} {B b g : Nat} {l : List Int} {z : Zon} (hB : Bd w B b l) (k : Wrote w B b w') (h : ZB w g z) : ZB w' g z := heap_wrote hB k h (by decide) (by decide)
theorem zb_old {w w' : World} {g : Nat} {z : Zon} (h : ZB w g z) (k : Turn w w' nowhere) : ZB w' g z := h.old k.grown

theorem bit_of {c : Cel} (h : CelOk 2 c) : 0 ≤ c.n ∧ c.n < 2 := by
  have hk := h.k
  rcases cell_form h.ok with q | q | q | q
  · omega
  · omega
  · have := q.2.1; omega
  · omega
theorem cellB_pos (c : Cel) : 0 < (cellB c).length := by
  unfold cellB
  by_cases e1 : c.k = 1
  · rw [if_pos e1, In.num8_length]; omega
  · rw [if_neg e1]
    by_cases e2 : c.k = 2
    · rw [if_pos e2]; simp
    · rw [if_neg e2]
      unfold Tx.strB
      rw [List.length_append]
      have := Oct.varB_pos 9 ((nm c.s).length : Int)
      omega
theorem best_len_ok {l : List Int} (h : l.length ≤ 4096) : 0 < (In.bestB l).length ∧ (In.bestB l).length ≤ 300000000 := by
  rcases In.best_cases l with e | e | e <;> rw [e]
  · have := In.encB_len 1 l h; omega
  · have := In.encB_len 2 l h; omega
  · have := In.encB_len 3 l h; omega
theorem bits_len_ok {l : List Cel} (h : ∀ c ∈ l, CelOk 2 c) (h0 : 0 < l.length) (hl : l.length ≤ 4096) : 0 < (Pk.putR (l.map (·.n)) 1).2.length ∧ (Pk.putR (l.map (·.n)) 1).2.length ≤ 300000000 := by
  have hf := fit_of h
  have hu := Pk.fit_isU hf (by omega)
  have hc : Pk.canB (l.map (·.n)).length 1 = true := (Pk.canB_iff _ _).2 ⟨by omega, by rw [List.length_map]; omega, by omega, by omega⟩
  have hok : (Pk.putR (l.map (·.n)) 1).1 = 0 := by
    rw [Pk.put_ok]
    refine ⟨hc, ?_⟩
    have := (Pk.wid_le (l.map (·.n)) 1 hu.nonneg).2 hf
    omega
  have h1 := Pk.put_size _ _ hok
  unfold Pk.sizeF at h1
  rw [if_pos hc, List.length_map] at h1
  have h2 := Pk.put_len (l.map (·.n)) 1
  have h3 : Pk.sizeN ((l.length : Int)).toNat (1 : Int).toNat = (l.length * 1 + 7) / 8 := by rw [Int.toNat_natCast]; rfl
  rw [h3] at h1
  omega
theorem texts_len_ok {l : List Cel} (h : ∀ c ∈ l, CelOk 3 c) (hl : l.length ≤ 4096) : 0 < (Tx.bestT (l.map fun c => nm c.s)).length ∧ (Tx.bestT (l.map fun c => nm c.s)).length ≤ 300000000 := by
  have hb := body_len 3 hl h
  have e : bodyS 3 l = Tx.bestT (l.map fun c => nm c.s) := by unfold bodyS; rw [if_neg (by decide), if_neg (by decide)]
  rw [e] at hb
  refine ⟨?_, hb⟩
  unfold Tx.bestT
  split
  · unfold Tx.dictT
    rw [List.length_cons]
    omega
  · unfold Tx.plainT
    rw [List.length_cons]
    omega

/-- Put's answer -/
def PutX (w : World) (kind : Int) (l : List Cel) (e : Ending) (w' : World) : Prop := e = .returned (.tuple #[.string (strOfNums (putS kind l).2), .int .i64 (putS kind l).1]) ∧ w.grownBy w' none
theorem turn_base {w0 w w' : World} (h : Turn w0 w nowhere) (k : Below w0.heap.size w w') : Turn w0 w' nowhere :=
  ⟨k.os.trans h.os, k.tape.trans h.tape, k.output.trans h.output, Nat.le_trans h.size k.size, fun i hi hn => (k.block i hi).trans (h.block i hi hn)⟩

set_option maxRecDepth 100000 in
set_option maxHeartbeats 8000000 in
theorem Put_any (kind : Int) (a : Option Addr) (n c : Nat) (l : List Cel) (w : World) (hs : CSeg w a n c l) (hi : IntOk l) : Calls Tryz.prog 11 #[.int .i64 kind, .slice a n c] w (PutX w kind l) := by
  have HS := Lib.hid hs
  have HL := Lib.hid hs.len
  have HCK := Lib.hid (Check_any kind a n c l w hs)
  obtain ⟨E, hE⟩ : ∃ E, E = checkS kind l := ⟨_, rfl⟩
  rw [← hE] at HCK
  clear hs
  by_cases h0 : E = 0
  · have hcol : Col kind l := check_iff.1 (by rw [← hE]; exact h0)
    have q0 : (E != 0) = false := by rw [h0]; rfl
    have HCOL := Lib.hid hcol
    have hn : n ≤ 4096 := by rw [← HL.out]; exact hcol.few
    have HR : Hid (putS kind l = (0, encS kind l)) := Lib.hid (put_of hcol)
    obtain ⟨m, hm⟩ : ∃ m, (someL l).length = m := ⟨_, rfl⟩
    have hel := Nu.enc_len (l := nullsL l) (by rw [nulls_len, HL.out]; omega)
    obtain ⟨q, hq⟩ : ∃ q, (encN (nullsL l)).length = q := ⟨_, rfl⟩
    have hk1 := hcol.k1
    have hk3 := hcol.k3
    have hku : IntKind.u8.wrap kind = kind := by rw [IntKind.wrap_u8]; omega
    rw [hq] at hel
    have hmk : m ≤ n := by
      have h1 := cnt_nulls l
      have h2 := HL.out
      omega
    have HM := Lib.hid hm
    have HQ := Lib.hid hq
    have HI := Lib.hid hi
    clear h0 hE hcol hm hq hi
    go_enter Tryz.func11, Tryz.ntmps11
    go_wp2_with fail
    refine HCK.out.mono ?_
    rintro e w1 ⟨rfl, hg⟩
    have T1 := Lib.hid (Pk.turn_of hg)
    have HPA := Lib.hid (part_any a n c m l w1 (HS.out.old hg) (by omega) HM.out)
    clear hg HCK
    dsimp only
    go_wp2_with fail
    refine HPA.out.mono ?_
    rintro e w2 ⟨an, cn, bs, ds, rfl, rn, rs, ht2⟩
    have T2 := Lib.hid (T1.out.trans ht2 (fun _ _ h => h))
    have RS2 := Lib.hid rs
    have h12 : w.heap.size ≤ w1.heap.size := T1.out.size
    have HPN := Lib.hid (Nu.put_form (l := nullsL l) (E := 0) (B := encN (nullsL l)) (m := q) (by unfold Nu.putN; rw [if_neg (by rw [nulls_len, HL.out]; omega)]) HQ.out an n cn w2 (bl_of rn))
    clear rn rs ht2 HPA T1
    dsimp only
    go_wp2_with fail
    refine HPN.out.mono ?_
    rintro e w3 ⟨a3, k3, rfl, hs3, ht3⟩
    have T3 := Lib.hid (T2.out.trans ht3 (fun _ _ h => h))
    have RS3 := Lib.hid (own_grow RS2.out ht3.grown)
    have SF3 := Lib.hid hs3
    have HB3 := T3.out.size
    have hq0 : 0 < q := by omega
    have HWB := Lib.hid (writeByte_fresh w.heap.size w3.heap.size kind (w3.alloc (.cells #[.pointer none, .slice none 0 0] 56)) HB3 (heap_alloc_new w3 _) (by simp; omega))
    obtain ⟨b, hb⟩ : ∃ b, b = w3.heap.size := ⟨_, rfl⟩
    have HBB := Lib.hid hb
    clear hs3 ht3 HPN T2 RS2
    dsimp only
    go_wp2_with fail
    refine HWB.out.mono ?_
    rintro e w4 ⟨rfl, hbd4, ht4⟩
    have hg4 : w3.grownBy w4 none := grown_put (grown_alloc w3 _) ht4 (Nat.le_refl _)
    have T4 := Lib.hid (T3.out.trans (Pk.turn_of hg4) (fun _ _ h => h))
    have RS4 := Lib.hid (own_grow RS3.out hg4)
    have h34 := hg4.size
    rw [← HBB.out] at hbd4 h34
    rw [← HBB.out]
    have HW1 := Lib.hid (write_any w.heap.size b [kind] (encN (nullsL l)) a3 q k3 w4 hbd4 (by omega) (SF3.out.grown hg4) hq0 (by simp; omega))
    have hwb : w.heap.size ≤ b := by rw [HBB.out]; exact HB3
    have HBD4 := Lib.hid hbd4
    clear hbd4 ht4 hg4 HWB T3 RS3 SF3 hb HBB
    dsimp only
    go_wp2_with fail
    refine HW1.out.mono ?_
    rintro e w5 ⟨rfl, hbd5, hw5⟩
    have T5 := Lib.hid (Wrote.base T4.out hw5 hwb)
    have RS5 := Lib.hid (own_wrote HBD4.out hw5 RS4.out (by decide) (by decide))
    have HBD5 := Lib.hid hbd5
    have hB5 : Bs.IsB ([kind] ++ encN (nullsL l)) := by
      intro x hx
      rcases List.mem_append.1 hx with hx | hx
      · rw [List.mem_singleton] at hx; omega
      · exact Nu.enc_isB (by rw [nulls_len, HL.out]; omega) x hx
    have h45 : w.heap.size ≤ w5.heap.size := T5.out.size
    clear hbd5 hw5 HW1 HBD4 T4 RS4 HB3 h34
    dsimp only
    by_cases hs0 : someL l = []
    · have hm0 : m = 0 := by rw [← HM.out, hs0]; rfl
      have HT : Hid (encS kind l = [kind] ++ encN (nullsL l)) := Lib.hid (by unfold encS tailS; rw [if_pos hs0, List.append_nil]; rfl)
      have hmz : ¬ (0 : Int) < (m : Int) := by omega
      have HST := Lib.hid (string_any w.heap.size b _ w5 HBD5.out (by simp) hB5)
      clear hs0 hm0 RS5 HBD5 hB5
      go_wp2_with fail
      refine HST.out.mono ?_
      rintro e w6 ⟨rfl, hb6⟩
      have HF : Hid (PutX w kind l (.returned (.tuple #[.string (strOfNums ([kind] ++ encN (nullsL l))), .int .i64 0])) w6) := Lib.hid ⟨by rw [HR.out, HT.out], (turn_base T5.out hb6).grown⟩
      clear hb6 HST
      dsimp only
      go_wp2
      go_ret2
      exact HF.out
    · have hm0 : 0 < m := by rw [← HM.out]; exact List.length_pos_iff.2 hs0
      have HT : Hid (encS kind l = [kind] ++ (encN (nullsL l) ++ (cellB (ofZ l).min ++ (cellB (ofZ l).max ++ bodyS kind (someL l))))) := Lib.hid (by unfold encS tailS; rw [if_neg hs0]; rfl)
      obtain ⟨o1, o2, m1, m2, _⟩ := min_of HCOL.out hs0
      have hof := of_some l
      have hmp : (0 : Int) < (m : Int) := by omega
      obtain ⟨z, hz⟩ : ∃ z, z = ofZ (someL l) := ⟨_, rfl⟩
      have HOF := Lib.hid (fun W hs => Of_any bs m ds (someL l) W hs (by omega))
      rw [← hz] at HOF hof
      rw [hof.1, hof.2.1] at HT
      rw [hof.1] at o1
      rw [hof.2.1] at o2
      have HSM := Lib.hid HCOL.out.some
      have HSI : Hid (IntOk (someL l)) := Lib.hid (fun x hx => HI.out x (some_mem.1 hx).1)
      have HMIN := Lib.hid o1
      have HMAX := Lib.hid o2
      have HCO := Lib.hid (coderOf_any kind w5 hk1 hk3)
      have hlB : ([kind] ++ encN (nullsL l)).length = 1 + q := by rw [List.length_append, HQ.out]; rfl
      have HLB := Lib.hid hlB
      clear hs0 hz hof o1 o2 m1 m2 hlB
      go_wp2_with fail
      refine HCO.out.mono ?_
      rintro e w6 ⟨v, rfl, hv, ht6⟩
      have T6 := Lib.hid (T5.out.trans ht6 (fun _ _ h => h))
      have RS6 := Lib.hid (own_grow RS5.out ht6.grown)
      have BD6 := Lib.hid (bd_old HBD5.out ht6)
      have HV := Lib.hid hv
      have HO6 := Lib.hid (HOF.out w6 (cseg_at RS6.out HM.out))
      clear hv ht6 HCO T5 RS5 HBD5 HOF
      dsimp only
      go_wp2_with fail
      refine HO6.out.mono ?_
      rintro e w7 ⟨rfl, hg7⟩
      have T7 := Lib.hid (T6.out.trans (Pk.turn_of (grown_then hg7 (grown_alloc w7 (.cells #[.int .i64 z.cnt, .int .i64 z.nul, .int .i64 z.min.k, .int .i64 z.min.n, .string z.min.s, .int .i64 z.max.k, .int .i64 z.max.n, .string z.max.s] 33)))) (fun _ _ h => h))
      have RS7 := Lib.hid (own_grow RS6.out (grown_then hg7 (grown_alloc w7 (.cells #[.int .i64 z.cnt, .int .i64 z.nul, .int .i64 z.min.k, .int .i64 z.min.n, .string z.min.s, .int .i64 z.max.k, .int .i64 z.max.n, .string z.max.s] 33))))
      have BD7 := Lib.hid (bd_old BD6.out (Pk.turn_of (grown_then hg7 (grown_alloc w7 (.cells #[.int .i64 z.cnt, .int .i64 z.nul, .int .i64 z.min.k, .int .i64 z.min.n, .string z.min.s, .int .i64 z.max.k, .int .i64 z.max.n, .string z.max.s] 33)))))
      have ZB7 := Lib.hid (ZB.new w7 z)
      obtain ⟨W8, hW8⟩ : ∃ V, w7.alloc (.cells #[.int .i64 z.cnt, .int .i64 z.nul, .int .i64 z.min.k, .int .i64 z.min.n, .string z.min.s, .int .i64 z.max.k, .int .i64 z.max.n, .string z.max.s] 33) = V := ⟨_, rfl⟩
      rw [hW8] at T7 RS7 BD7 ZB7
      obtain ⟨zb, hzb⟩ : ∃ g, g = w7.heap.size := ⟨_, rfl⟩
      rw [← hzb] at ZB7
      have HW8 := Lib.hid hW8
      have HZB := Lib.hid hzb
      have HX7 : ∀ x, x = w7 → True := fun _ _ => trivial
      clear hg7 HO6 T6 RS6 BD6 hW8 hzb HX7
      dsimp only
      rcases HV.out with ⟨hk, cb, hcv, -⟩ | ⟨hk, hcv⟩ | ⟨hk, cb, hcv, -⟩
      · subst hk hcv
        go_upto_region 11 with (fail)
        rw [HW8.out, ← HZB.out]
        have h78 := T7.out.size
        obtain ⟨-, -, ⟨c0, c1, c2⟩, -, -, -⟩ := ZB7.out.cells
        have hmeth := fun W => meth_putCell_I cb W
        have HE1 : Hid (cellB z.min = In.num8 z.min.n) := Lib.hid (if_pos HMIN.out.k)
        have HE2 : Hid (cellB z.max = In.num8 z.max.n) := Lib.hid (if_pos HMAX.out.k)
        have HE3 : Hid (bodyS 1 (someL l) = In.bestB ((someL l).map (·.n))) := Lib.hid (if_pos rfl)
        have HP1 := Lib.hid (putCell_I cb z.min  W8)
        go_wp2_with fail
        refine HP1.out.mono ?_
        rintro e w9 ⟨a9, k9, rfl, hs9, ht9⟩
        have T9 := Lib.hid (T7.out.trans ht9 (fun _ _ h => h))
        have RS9 := Lib.hid (own_grow RS7.out ht9.grown)
        have BD9 := Lib.hid (bd_old BD7.out ht9)
        have ZB9 := Lib.hid (zb_old ZB7.out ht9)
        have h79 := T9.out.size
        have HW := Lib.hid (write_any w.heap.size b ([1] ++ encN (nullsL l)) (In.num8 z.min.n) a9 8 k9 w9 BD9.out (by omega) hs9 (by omega) (by rw [HLB.out]; omega))
        clear hs9 ht9 HP1 T7 RS7 BD7 ZB7 c0 c1 c2
        dsimp only
        go_wp2_with fail
        refine HW.out.mono ?_
        rintro e w10 ⟨rfl, hbd10, hw10⟩
        have T10 := Lib.hid (Wrote.base T9.out hw10 hwb)
        have RS10 := Lib.hid (own_wrote BD9.out hw10 RS9.out (by decide) (by decide))
        have ZB10 := Lib.hid (zb_wrote BD9.out hw10 ZB9.out)
        have BD10 := Lib.hid hbd10
        clear hbd10 hw10 HW T9 RS9 BD9 ZB9
        dsimp only
        obtain ⟨-, -, -, c0, c1, c2⟩ := ZB10.out.cells
        have HP2 := Lib.hid (putCell_I cb z.max  w10)
        go_wp2_with fail
        refine HP2.out.mono ?_
        rintro e w11 ⟨a11, k11, rfl, hs11, ht11⟩
        have T11 := Lib.hid (T10.out.trans ht11 (fun _ _ h => h))
        have RS11 := Lib.hid (own_grow RS10.out ht11.grown)
        have BD11 := Lib.hid (bd_old BD10.out ht11)
        have h711 := T11.out.size
        have HW2 := Lib.hid (write_any w.heap.size b ([1] ++ encN (nullsL l) ++ (In.num8 z.min.n)) (In.num8 z.max.n) a11 8 k11 w11 BD11.out (by omega) hs11 (by omega) (by rw [List.length_append, HLB.out, In.num8_length]; omega))
        clear hs11 ht11 HP2 T10 RS10 BD10 ZB10 c0 c1 c2
        dsimp only
        go_wp2_with fail
        refine HW2.out.mono ?_
        rintro e w12 ⟨rfl, hbd12, hw12⟩
        have T12 := Lib.hid (Wrote.base T11.out hw12 hwb)
        have RS12 := Lib.hid (own_wrote BD11.out hw12 RS11.out (by decide) (by decide))
        have BD12 := Lib.hid hbd12
        clear hbd12 hw12 HW2 T11 RS11 BD11 hmeth
        dsimp only
        have hmeth := fun W => meth_putCells_I cb W
        obtain ⟨M, hM⟩ : ∃ M, (In.bestB ((someL l).map (·.n))).length = M := ⟨_, rfl⟩
        have HML := Lib.hid hM
        have hM1 : 0 < M ∧ M ≤ 300000000 := by rw [← hM]; exact best_len_ok (by rw [List.length_map, HM.out]; omega)
        have HPS := Lib.hid (putCells_I cb bs m ds M (someL l) w12 (cseg_at RS12.out HM.out) (by omega) HSI.out hM)
        clear hM
        go_wp2_with fail
        refine HPS.out.mono ?_
        rintro e w13 ⟨a13, k13, rfl, hs13, ht13⟩
        have T13 := Lib.hid (T12.out.trans ht13 (fun _ _ h => h))
        have BD13 := Lib.hid (bd_old BD12.out ht13)
        have h713 := T13.out.size
        have X0 := write_any w.heap.size b ([1] ++ encN (nullsL l) ++ (In.num8 z.min.n) ++ (In.num8 z.max.n)) (In.bestB ((someL l).map (·.n))) a13 M k13 w13
        have X1 := X0 BD13.out
        have X2 := X1 (by omega)
        have X3 := X2 hs13
        have X4 := X3 hM1.1
        have X5 := X4 (by rw [List.length_append, List.length_append, HLB.out, In.num8_length, In.num8_length]; omega)
        have HW3 := Lib.hid X5
        clear X0 X1 X2 X3 X4 X5
        clear hs13 ht13 HPS T12 RS12 BD12 hmeth
        dsimp only
        go_wp2_with fail
        refine HW3.out.mono ?_
        rintro e w14 ⟨rfl, hbd14, hw14⟩
        have T14 := Lib.hid (Wrote.base T13.out hw14 hwb)
        have HEN : Hid ([1] ++ encN (nullsL l) ++ (In.num8 z.min.n) ++ (In.num8 z.max.n) ++ In.bestB ((someL l).map (·.n)) = encS 1 l) := Lib.hid (by
          rw [HT.out, HE1.out, HE2.out, HE3.out]
          simp only [List.append_assoc])
        have HST := Lib.hid (string_any w.heap.size b ([1] ++ encN (nullsL l) ++ (In.num8 z.min.n) ++ (In.num8 z.max.n) ++ In.bestB ((someL l).map (·.n))) w14 hbd14 (by simp) (by rw [HEN.out]; exact enc_isB HCOL.out))
        clear hbd14 hw14 HW3 T13 BD13
        dsimp only
        go_wp2_with fail
        refine HST.out.mono ?_
        rintro e w15 ⟨rfl, hb15⟩
        have HF : Hid (PutX w 1 l (.returned (.tuple #[.string (strOfNums ([1] ++ encN (nullsL l) ++ (In.num8 z.min.n) ++ (In.num8 z.max.n) ++ In.bestB ((someL l).map (·.n)))), .int .i64 0])) w15) := Lib.hid ⟨by rw [HR.out, HEN.out], (turn_base T14.out hb15).grown⟩
        clear hb15 HST
        dsimp only
        go_wp2
        go_ret2
        exact HF.out
      · subst hk hcv
        go_upto_region 11 with (fail)
        rw [HW8.out, ← HZB.out]
        have h78 := T7.out.size
        obtain ⟨-, -, ⟨c0, c1, c2⟩, -, -, -⟩ := ZB7.out.cells
        have hmeth := fun W => meth_putCell_B W
        have HE1 : Hid (cellB z.min = [z.min.n]) := Lib.hid (by unfold cellB; rw [if_neg (by rw [HMIN.out.k]; decide), if_pos HMIN.out.k])
        have HE2 : Hid (cellB z.max = [z.max.n]) := Lib.hid (by unfold cellB; rw [if_neg (by rw [HMAX.out.k]; decide), if_pos HMAX.out.k])
        have HE3 : Hid (bodyS 2 (someL l) = (Pk.putR ((someL l).map (·.n)) 1).2) := Lib.hid (by unfold bodyS; rw [if_neg (by decide), if_pos rfl])
        have hmn := celok_bit HMIN.out HMIN.out.k
        have hmx := celok_bit HMAX.out HMAX.out.k
        have HP1 := Lib.hid (putCell_B z.min hmn.1 hmn.2 W8)
        go_wp2_with fail
        refine HP1.out.mono ?_
        rintro e w9 ⟨a9, k9, rfl, hs9, ht9⟩
        have T9 := Lib.hid (T7.out.trans ht9 (fun _ _ h => h))
        have RS9 := Lib.hid (own_grow RS7.out ht9.grown)
        have BD9 := Lib.hid (bd_old BD7.out ht9)
        have ZB9 := Lib.hid (zb_old ZB7.out ht9)
        have h79 := T9.out.size
        have HW := Lib.hid (write_any w.heap.size b ([2] ++ encN (nullsL l)) [z.min.n] a9 1 k9 w9 BD9.out (by omega) hs9 (by omega) (by rw [HLB.out]; omega))
        clear hs9 ht9 HP1 T7 RS7 BD7 ZB7 c0 c1 c2
        dsimp only
        go_wp2_with fail
        refine HW.out.mono ?_
        rintro e w10 ⟨rfl, hbd10, hw10⟩
        have T10 := Lib.hid (Wrote.base T9.out hw10 hwb)
        have RS10 := Lib.hid (own_wrote BD9.out hw10 RS9.out (by decide) (by decide))
        have ZB10 := Lib.hid (zb_wrote BD9.out hw10 ZB9.out)
        have BD10 := Lib.hid hbd10
        clear hbd10 hw10 HW T9 RS9 BD9 ZB9
        dsimp only
        obtain ⟨-, -, -, c0, c1, c2⟩ := ZB10.out.cells
        have HP2 := Lib.hid (putCell_B z.max hmx.1 hmx.2 w10)
        go_wp2_with fail
        refine HP2.out.mono ?_
        rintro e w11 ⟨a11, k11, rfl, hs11, ht11⟩
        have T11 := Lib.hid (T10.out.trans ht11 (fun _ _ h => h))
        have RS11 := Lib.hid (own_grow RS10.out ht11.grown)
        have BD11 := Lib.hid (bd_old BD10.out ht11)
        have h711 := T11.out.size
        have HW2 := Lib.hid (write_any w.heap.size b ([2] ++ encN (nullsL l) ++ [z.min.n]) [z.max.n] a11 1 k11 w11 BD11.out (by omega) hs11 (by omega) (by rw [List.length_append, HLB.out, List.length_singleton]; omega))
        clear hs11 ht11 HP2 T10 RS10 BD10 ZB10 c0 c1 c2
        dsimp only
        go_wp2_with fail
        refine HW2.out.mono ?_
        rintro e w12 ⟨rfl, hbd12, hw12⟩
        have T12 := Lib.hid (Wrote.base T11.out hw12 hwb)
        have RS12 := Lib.hid (own_wrote BD11.out hw12 RS11.out (by decide) (by decide))
        have BD12 := Lib.hid hbd12
        clear hbd12 hw12 HW2 T11 RS11 BD11 hmeth
        dsimp only
        have hmeth := fun W => meth_putCells_B W
        obtain ⟨M, hM⟩ : ∃ M, ((Pk.putR ((someL l).map (·.n)) 1).2).length = M := ⟨_, rfl⟩
        have HML := Lib.hid hM
        have hM1 : 0 < M ∧ M ≤ 300000000 := by rw [← hM]; exact bits_len_ok HSM.out (by rw [HM.out]; omega) (by rw [HM.out]; omega)
        have HPS := Lib.hid (putCells_B bs m ds M (someL l) w12 (cseg_at RS12.out HM.out) (by omega) (fun x hx => bit_of (HSM.out x hx)) hM)
        clear hM
        go_wp2_with fail
        refine HPS.out.mono ?_
        rintro e w13 ⟨a13, k13, rfl, hs13, ht13⟩
        have T13 := Lib.hid (T12.out.trans ht13 (fun _ _ h => h))
        have BD13 := Lib.hid (bd_old BD12.out ht13)
        have h713 := T13.out.size
        have X0 := write_any w.heap.size b ([2] ++ encN (nullsL l) ++ [z.min.n] ++ [z.max.n]) ((Pk.putR ((someL l).map (·.n)) 1).2) a13 M k13 w13
        have X1 := X0 BD13.out
        have X2 := X1 (by omega)
        have X3 := X2 hs13
        have X4 := X3 hM1.1
        have X5 := X4 (by rw [List.length_append, List.length_append, HLB.out, List.length_singleton, List.length_singleton]; omega)
        have HW3 := Lib.hid X5
        clear X0 X1 X2 X3 X4 X5
        clear hs13 ht13 HPS T12 RS12 BD12 hmeth
        dsimp only
        go_wp2_with fail
        refine HW3.out.mono ?_
        rintro e w14 ⟨rfl, hbd14, hw14⟩
        have T14 := Lib.hid (Wrote.base T13.out hw14 hwb)
        have HEN : Hid ([2] ++ encN (nullsL l) ++ [z.min.n] ++ [z.max.n] ++ (Pk.putR ((someL l).map (·.n)) 1).2 = encS 2 l) := Lib.hid (by
          rw [HT.out, HE1.out, HE2.out, HE3.out]
          simp only [List.append_assoc])
        have HST := Lib.hid (string_any w.heap.size b ([2] ++ encN (nullsL l) ++ [z.min.n] ++ [z.max.n] ++ (Pk.putR ((someL l).map (·.n)) 1).2) w14 hbd14 (by simp) (by rw [HEN.out]; exact enc_isB HCOL.out))
        clear hbd14 hw14 HW3 T13 BD13
        dsimp only
        go_wp2_with fail
        refine HST.out.mono ?_
        rintro e w15 ⟨rfl, hb15⟩
        have HF : Hid (PutX w 2 l (.returned (.tuple #[.string (strOfNums ([2] ++ encN (nullsL l) ++ [z.min.n] ++ [z.max.n] ++ (Pk.putR ((someL l).map (·.n)) 1).2)), .int .i64 0])) w15) := Lib.hid ⟨by rw [HR.out, HEN.out], (turn_base T14.out hb15).grown⟩
        clear hb15 HST
        dsimp only
        go_wp2
        go_ret2
        exact HF.out
      · subst hk hcv
        go_upto_region 11 with (fail)
        rw [HW8.out, ← HZB.out]
        have h78 := T7.out.size
        obtain ⟨-, -, ⟨c0, c1, c2⟩, -, -, -⟩ := ZB7.out.cells
        have hmeth := fun W => meth_putCell_T cb W
        have HE1 : Hid (cellB z.min = Tx.strB (nm z.min.s)) := Lib.hid (by unfold cellB; rw [if_neg (by rw [HMIN.out.k]; decide), if_neg (by rw [HMIN.out.k]; decide)])
        have HE2 : Hid (cellB z.max = Tx.strB (nm z.max.s)) := Lib.hid (by unfold cellB; rw [if_neg (by rw [HMAX.out.k]; decide), if_neg (by rw [HMAX.out.k]; decide)])
        have HE3 : Hid (bodyS 3 (someL l) = Tx.bestT ((someL l).map fun c => nm c.s)) := Lib.hid (by unfold bodyS; rw [if_neg (by decide), if_neg (by decide)])
        obtain ⟨x1, hx1⟩ : ∃ m, (Tx.strB (nm z.min.s)).length = m := ⟨_, rfl⟩
        obtain ⟨x2, hx2⟩ : ∃ m, (Tx.strB (nm z.max.s)).length = m := ⟨_, rfl⟩
        have hxb : 0 < x1 ∧ x1 ≤ 65600 ∧ 0 < x2 ∧ x2 ≤ 65600 := by
          rw [← hx1, ← hx2, ← HE1.out, ← HE2.out]
          exact ⟨cellB_pos z.min, cellB_len HMIN.out, cellB_pos z.max, cellB_len HMAX.out⟩
        have HX1 := Lib.hid hx1
        have HX2 := Lib.hid hx2
        clear hx1 hx2
        have HP1 := Lib.hid (putCell_T cb z.min (cell_len HMIN.out.ok) x1 HX1.out W8)
        go_wp2_with fail
        refine HP1.out.mono ?_
        rintro e w9 ⟨a9, k9, rfl, hs9, ht9⟩
        have T9 := Lib.hid (T7.out.trans ht9 (fun _ _ h => h))
        have RS9 := Lib.hid (own_grow RS7.out ht9.grown)
        have BD9 := Lib.hid (bd_old BD7.out ht9)
        have ZB9 := Lib.hid (zb_old ZB7.out ht9)
        have h79 := T9.out.size
        have HW := Lib.hid (write_any w.heap.size b ([3] ++ encN (nullsL l)) (Tx.strB (nm z.min.s)) a9 x1 k9 w9 BD9.out (by omega) hs9 (by omega) (by rw [HLB.out]; omega))
        clear hs9 ht9 HP1 T7 RS7 BD7 ZB7 c0 c1 c2
        dsimp only
        go_wp2_with fail
        refine HW.out.mono ?_
        rintro e w10 ⟨rfl, hbd10, hw10⟩
        have T10 := Lib.hid (Wrote.base T9.out hw10 hwb)
        have RS10 := Lib.hid (own_wrote BD9.out hw10 RS9.out (by decide) (by decide))
        have ZB10 := Lib.hid (zb_wrote BD9.out hw10 ZB9.out)
        have BD10 := Lib.hid hbd10
        clear hbd10 hw10 HW T9 RS9 BD9 ZB9
        dsimp only
        obtain ⟨-, -, -, c0, c1, c2⟩ := ZB10.out.cells
        have HP2 := Lib.hid (putCell_T cb z.max (cell_len HMAX.out.ok) x2 HX2.out w10)
        go_wp2_with fail
        refine HP2.out.mono ?_
        rintro e w11 ⟨a11, k11, rfl, hs11, ht11⟩
        have T11 := Lib.hid (T10.out.trans ht11 (fun _ _ h => h))
        have RS11 := Lib.hid (own_grow RS10.out ht11.grown)
        have BD11 := Lib.hid (bd_old BD10.out ht11)
        have h711 := T11.out.size
        have HW2 := Lib.hid (write_any w.heap.size b ([3] ++ encN (nullsL l) ++ (Tx.strB (nm z.min.s))) (Tx.strB (nm z.max.s)) a11 x2 k11 w11 BD11.out (by omega) hs11 (by omega) (by rw [List.length_append, HLB.out, HX1.out]; omega))
        clear hs11 ht11 HP2 T10 RS10 BD10 ZB10 c0 c1 c2
        dsimp only
        go_wp2_with fail
        refine HW2.out.mono ?_
        rintro e w12 ⟨rfl, hbd12, hw12⟩
        have T12 := Lib.hid (Wrote.base T11.out hw12 hwb)
        have RS12 := Lib.hid (own_wrote BD11.out hw12 RS11.out (by decide) (by decide))
        have BD12 := Lib.hid hbd12
        clear hbd12 hw12 HW2 T11 RS11 BD11 hmeth
        dsimp only
        have hmeth := fun W => meth_putCells_T cb W
        obtain ⟨M, hM⟩ : ∃ M, (Tx.bestT ((someL l).map fun c => nm c.s)).length = M := ⟨_, rfl⟩
        have HML := Lib.hid hM
        have hM1 : 0 < M ∧ M ≤ 300000000 := by rw [← hM]; exact texts_len_ok HSM.out (by rw [HM.out]; omega)
        have HPS := Lib.hid (putCells_T cb bs m ds M (someL l) w12 (cseg_at RS12.out HM.out) (by omega) (fun x hx => cell_len (HSM.out x hx).ok) hM)
        clear hM
        go_wp2_with fail
        refine HPS.out.mono ?_
        rintro e w13 ⟨a13, k13, rfl, hs13, ht13⟩
        have T13 := Lib.hid (T12.out.trans ht13 (fun _ _ h => h))
        have BD13 := Lib.hid (bd_old BD12.out ht13)
        have h713 := T13.out.size
        have X0 := write_any w.heap.size b ([3] ++ encN (nullsL l) ++ (Tx.strB (nm z.min.s)) ++ (Tx.strB (nm z.max.s))) (Tx.bestT ((someL l).map fun c => nm c.s)) a13 M k13 w13
        have X1 := X0 BD13.out
        have X2 := X1 (by omega)
        have X3 := X2 hs13
        have X4 := X3 hM1.1
        have X5 := X4 (by rw [List.length_append, List.length_append, HLB.out, HX1.out, HX2.out]; omega)
        have HW3 := Lib.hid X5
        clear X0 X1 X2 X3 X4 X5
        clear hs13 ht13 HPS T12 RS12 BD12 hmeth
        dsimp only
        go_wp2_with fail
        refine HW3.out.mono ?_
        rintro e w14 ⟨rfl, hbd14, hw14⟩
        have T14 := Lib.hid (Wrote.base T13.out hw14 hwb)
        have HEN : Hid ([3] ++ encN (nullsL l) ++ (Tx.strB (nm z.min.s)) ++ (Tx.strB (nm z.max.s)) ++ Tx.bestT ((someL l).map fun c => nm c.s) = encS 3 l) := Lib.hid (by
          rw [HT.out, HE1.out, HE2.out, HE3.out]
          simp only [List.append_assoc])
        have HST := Lib.hid (string_any w.heap.size b ([3] ++ encN (nullsL l) ++ (Tx.strB (nm z.min.s)) ++ (Tx.strB (nm z.max.s)) ++ Tx.bestT ((someL l).map fun c => nm c.s)) w14 hbd14 (by simp) (by rw [HEN.out]; exact enc_isB HCOL.out))
        clear hbd14 hw14 HW3 T13 BD13
        dsimp only
        go_wp2_with fail
        refine HST.out.mono ?_
        rintro e w15 ⟨rfl, hb15⟩
        have HF : Hid (PutX w 3 l (.returned (.tuple #[.string (strOfNums ([3] ++ encN (nullsL l) ++ (Tx.strB (nm z.min.s)) ++ (Tx.strB (nm z.max.s)) ++ Tx.bestT ((someL l).map fun c => nm c.s))), .int .i64 0])) w15) := Lib.hid ⟨by rw [HR.out, HEN.out], (turn_base T14.out hb15).grown⟩
        clear hb15 HST
        dsimp only
        go_wp2
        go_ret2
        exact HF.out
  · have q0 : (E != 0) = true := bne_iff_ne.2 h0
    have HR : Hid (putS kind l = (E, [])) := Lib.hid (by unfold putS; rw [← hE, if_pos h0])
    clear h0 hE
    go_enter Tryz.func11, Tryz.ntmps11
    go_wp2_with fail
    refine HCK.out.mono ?_
    rintro e w1 ⟨rfl, hg⟩
    have HF : Hid (PutX w kind l (.returned (.tuple #[.string ⟨#[]⟩, .int .i64 E])) w1) := Lib.hid ⟨by rw [HR.out]; rfl, hg⟩
    clear hg
    dsimp only
    go_wp2
    go_ret2
    exact HF.out
end Go.Proofs.YtljanfnhmhimiaaGreat.Sg

namespace Go.Proofs.YtljanfnhmhimiaaGreat.Sg
open Go.RowKit Go.Joins Zn Zr Dv
open Oct (Rd)
open In (At)
open Nu (cnt)

theorem Put_c : PutC := fun kind a n c l w hs hi _ _ => (Put_any kind a n c l w hs hi).mono fun _ _ h => h
/-- Get's answer -/
def GetX (w : World) (K : Int) (L : List Cel) (m : Nat) (E : Int) (e : Ending) (w' : World) : Prop :=
  ∃ a c, e = .returned (.tuple #[.int .i64 K, .slice a m c, .int .i64 E]) ∧ CSeg w' a m c L ∧ w.grownBy w' none
theorem get_bad {w w' : World} (h : w.grownBy w' none) : GetX w 0 [] 0 4 (.returned (.tuple #[.int .i64 0, .slice none 0 0, .int .i64 4])) w' := ⟨none, 0, rfl, CSeg.nil w', h⟩
/-- what Get makes of the cells -/
def resS (k : Int) (nl : List Bool) (s : List Int) : Option (List Cel) → Int × List Cel × Int
  | none => (0, [], 4)
  | some cs => if putS k (mergeS nl cs) = (0, s) then (k, mergeS nl cs, 0) else (0, [], 4)
theorem int_merge {nl : List Bool} {cs : List Cel} (h : IntOk cs) : IntOk (mergeS nl cs) := fun c hc => by
  rcases merge_mem nl cs c hc with rfl | hc
  · show -9223372036854775808 ≤ (0 : Int) ∧ (0 : Int) ≤ 9223372036854775807
    omega
  · exact h c hc

set_option maxRecDepth 100000 in
set_option maxHeartbeats 4000000 in
theorem get_no (s : List Int) (hb : Bs.IsB s) (hl : s.length ≤ 100000000) (hh : headS s = none) (w : World) : Calls Tryz.prog 12 #[.string (strOfNums s)] w (GetX w 0 [] 0 4) := by
  have h0 := fun W => getHead_any s hb hl W
  rw [hh] at h0
  have HH := Lib.hid h0
  obtain ⟨S, hS⟩ : ∃ S, strOfNums s = S := ⟨_, rfl⟩
  rw [hS] at HH ⊢
  clear hS hb hl hh h0
  go_enter Tryz.func12, Tryz.ntmps12
  go_wp2_with fail
  refine (HH.out _).mono ?_
  intro e w1 hx
  obtain ⟨rfl, ht⟩ : HeadNo w e w1 := hx
  have HF : Hid (GetX w 0 [] 0 4 (.returned (.tuple #[.int .i64 0, .slice none 0 0, .int .i64 4])) (w1.alloc (.cells #[.int .i64 0, .slice none 0 0, .int .i64 0, .int .i64 0, .int .i64 0, .int .i64 0, .string ⟨#[]⟩, .int .i64 0, .int .i64 0, .string ⟨#[]⟩] 69))) := Lib.hid (get_bad (grown_then ht.grown (grown_alloc _ _)))
  clear ht
  dsimp only
  go_wp2
  go_ret3
  exact HF.out

set_option maxRecDepth 100000 in
set_option maxHeartbeats 4000000 in
theorem get_yes (s : List Int) (hb : Bs.IsB s) (hl : s.length ≤ 100000000) (k : Int) (nl : List Bool) (z : Zon) (r : List Int) (hh : headS s = some (k, nl, z, r)) (o : Option (List Cel)) (ho : (if cnt nl = nl.length then some [] else cellsS k (nl.length - cnt nl) r) = o)
    (K : Int) (L : List Cel) (m : Nat) (E : Int) (hres : resS k nl s o = (K, L, E)) (hm : L.length = m) (w : World) :
    Calls Tryz.prog 12 #[.string (strOfNums s)] w (GetX w K L m E) := by
  have h0 := fun W => getHead_any s hb hl W
  rw [hh] at h0
  have HH := Lib.hid h0
  obtain ⟨k1, k3, hn, hz1, hz2, -, -⟩ := head_some hb hh
  have hs0 : s ≠ [] := by rintro rfl; cases hh
  have hmr : ∀ cs, o = some cs → IntOk (mergeS nl cs) := by
    intro cs hcs
    refine int_merge ?_
    by_cases hc : cnt nl = nl.length
    · rw [if_pos hc] at ho
      rw [← ho] at hcs
      obtain rfl := Option.some.inj hcs
      intro c hc; cases hc
    · rw [if_neg hc] at ho
      rw [← ho] at hcs
      have hr : Oct.IsB r := fun x hx => hb x (by
        rcases (head_some hb hh).2.2.2.2.2.2 with ⟨_, _, _, e⟩ | ⟨_, _, _, e⟩
        · rw [e]; exact List.mem_cons_of_mem _ (List.mem_append_right _ hx)
        · rw [e]; exact List.mem_cons_of_mem _ (List.mem_append_right _ (List.mem_append_right _ (List.mem_append_right _ hx))))
      exact cells_int hr hcs
  have HMR := Lib.hid hmr
  have HSB := Lib.hid hb
  have HS0 := Lib.hid hs0
  obtain ⟨S, hS⟩ : ∃ S, strOfNums s = S := ⟨_, rfl⟩
  rw [hS] at HH ⊢
  have HSS := Lib.hid hS
  have HO := Lib.hid ho
  have HRES := Lib.hid hres
  have HM := Lib.hid hm
  obtain ⟨n, hnn⟩ : ∃ n, nl.length = n := ⟨_, rfl⟩
  have hn2 : n ≤ 4096 := by rw [← hnn]; exact hn
  have HNN := Lib.hid hnn
  have HZ := Lib.hid (And.intro hz1 hz2)
  clear hS hb hl hh h0 hmr hs0 ho hres hm hnn hn hz1 hz2
  go_enter Tryz.func12, Tryz.ntmps12
  go_wp2_with fail
  refine (HH.out _).mono ?_
  intro e w1 hx
  obtain ⟨a, c, b, g, rfl, hsg, hrd, hrb, hrl, hbw, hgw, hab, ht⟩ : HeadYes w k nl nl.length z r e w1 := hx
  rw [HNN.out] at hsg hab ⊢
  have HB1 := heap_alloc_new w1 (.cells #[.int .i64 k, .slice a n c, .int .i64 z.cnt, .int .i64 z.nul, .int .i64 z.min.k, .int .i64 z.min.n, .string z.min.s, .int .i64 z.max.k, .int .i64 z.max.n, .string z.max.s] 69)
  have t2 : Turn w1 (w1.alloc (.cells #[.int .i64 k, .slice a n c, .int .i64 z.cnt, .int .i64 z.nul, .int .i64 z.min.k, .int .i64 z.min.n, .string z.min.s, .int .i64 z.max.k, .int .i64 z.max.n, .string z.max.s] 69)) nowhere := Turn.alloc _ _ _
  obtain ⟨W2, hW2⟩ : ∃ V, w1.alloc (.cells #[.int .i64 k, .slice a n c, .int .i64 z.cnt, .int .i64 z.nul, .int .i64 z.min.k, .int .i64 z.min.n, .string z.min.s, .int .i64 z.max.k, .int .i64 z.max.n, .string z.max.s] 69) = V := ⟨_, rfl⟩
  obtain ⟨hb2, hhb2⟩ : ∃ g, g = w1.heap.size := ⟨_, rfl⟩
  rw [hW2] at HB1 t2
  rw [← hhb2] at HB1
  have H2 : Hid (HB W2 hb2 ⟨k, a, n, c, z⟩) := Lib.hid HB1
  have T2 : Hid (Turn w W2 nowhere) := Lib.hid (ht.trans t2 (fun _ _ h => h))
  have HW2 := Lib.hid hW2
  have HHB := Lib.hid hhb2
  have hbl := rd_lt hrd
  have HGC := Lib.hid (getCells_any ⟨k, a, n, c, z⟩ b g nl r W2 k1 k3 (hsg.grown t2.grown) hn2 (by rw [HZ.out.1, HNN.out]) HZ.out.2 (In.Turn.rd t2 hrd id id) hab hrb hrl)
  rw [HO.out] at HGC
  have hsz := t2.size
  have hbb : hb2 ≠ b := by omega
  clear hsg hrd hrb hrl hgw hab ht HB1 t2 hW2 hhb2 HO
  dsimp only
  go_upto_region 4 with (fail)
  rw [HW2.out, ← HHB.out]
  obtain ⟨d0, d1, d2, d3, d4, d5, d6, d7, d8, d9⟩ := H2.out.cellsAt
  go_wp2_with fail
  refine HGC.out.mono ?_
  cases o with
  | none =>
    rintro e w3 ⟨ht3, er, her, rfl⟩
    have hq : (er != 0) = true := bne_iff_ne.2 her
    have h1 := HRES.out
    obtain ⟨rfl, h2⟩ := Prod.mk.inj h1
    obtain ⟨rfl, rfl⟩ := Prod.mk.inj h2
    obtain rfl : m = 0 := by rw [← HM.out]; rfl
    have HF : Hid (GetX w 0 [] 0 4 (.returned (.tuple #[.int .i64 0, .slice none 0 0, .int .i64 4])) w3) := Lib.hid (get_bad (Turn.trans T2.out ht3 (fun i hi e => by have e2 : i = b := e; omega)).grown)
    clear ht3 her h1 h2 d0 d1 d2 d3 d4 d5 d6 d7 d8 d9
    dsimp only
    go_wp2
    go_ret3
    exact HF.out
  | some cs =>
    rintro e w3 ⟨ht3, la, lc, rfl, hls⟩
    have T3 : Hid (Turn w w3 nowhere) := Lib.hid (Turn.trans T2.out ht3 (fun i hi e => by have e2 : i = b := e; omega))
    have H3 := Lib.hid (H2.out.turn ht3 hbb)
    have L3 := Lib.hid hls
    have HPU := Lib.hid (Put_any k la n lc (mergeS nl cs) w3 hls (HMR.out cs rfl))
    clear ht3 hls d0 d1 d2 d3 d4 d5 d6 d7 d8 d9
    dsimp only
    obtain ⟨d0, d1, d2, d3, d4, d5, d6, d7, d8, d9⟩ := H3.out.cellsAt
    go_wp2_with fail
    refine HPU.out.mono ?_
    intro e w4 hx
    obtain ⟨rfl, hg4⟩ : e = _ ∧ w3.grownBy w4 none := hx
    have T4 := Lib.hid (T3.out.trans (Pk.turn_of hg4) (fun _ _ h => h))
    have H4 := Lib.hid (H3.out.old (Pk.turn_of hg4))
    have L4 := Lib.hid (L3.out.old hg4)
    obtain ⟨A, hA⟩ : ∃ A, strOfNums (putS k (mergeS nl cs)).2 = A := ⟨_, rfl⟩
    obtain ⟨E1, hE1⟩ : ∃ E1, (putS k (mergeS nl cs)).1 = E1 := ⟨_, rfl⟩
    rw [hA, hE1]
    have HA := Lib.hid hA
    have HE1 := Lib.hid hE1
    clear hg4 hA hE1 d0 d1 d2 d3 d4 d5 d6 d7 d8 d9 HPU
    dsimp only
    obtain ⟨d0, d1, d2, d3, d4, d5, d6, d7, d8, d9⟩ := H4.out.cellsAt
    by_cases hp : putS k (mergeS nl cs) = (0, s)
    · have h1 := HRES.out
      unfold resS at h1
      dsimp only at h1
      rw [if_pos hp] at h1
      obtain ⟨rfl, h2⟩ := Prod.mk.inj h1
      obtain ⟨rfl, rfl⟩ := Prod.mk.inj h2
      obtain rfl : m = n := by rw [← HM.out, merge_len, HNN.out]
      have hAS : A = S := by rw [← HA.out, ← HSS.out, hp]
      have q1 : (A.toList != S.toList) = false := by rw [hAS]; exact bne_self_eq_false _
      have q2 : A.toList = S.toList := by rw [hAS]
      have HF : Hid (GetX w k (mergeS nl cs) m 0 (.returned (.tuple #[.int .i64 k, .slice la m lc, .int .i64 0])) w4) := Lib.hid ⟨la, lc, rfl, L4.out, T4.out.grown⟩
      clear h1 h2 hp hAS
      go_wp2
      go_ret3
      exact HF.out
    · have h1 := HRES.out
      unfold resS at h1
      dsimp only at h1
      rw [if_neg hp] at h1
      obtain ⟨rfl, h2⟩ := Prod.mk.inj h1
      obtain ⟨rfl, rfl⟩ := Prod.mk.inj h2
      obtain rfl : m = 0 := by rw [← HM.out]; rfl
      have hAS : A ≠ S := by
        intro e
        rw [← HA.out, ← HSS.out] at e
        by_cases hc : checkS k (mergeS nl cs) = 0
        · have hcol := check_iff.1 hc
          have hpo := put_of hcol
          rw [hpo] at e hp
          exact hp (by rw [Dv.str_inj (enc_isB hcol) HSB.out e])
        · have hpo : putS k (mergeS nl cs) = (checkS k (mergeS nl cs), []) := by unfold putS; rw [if_pos hc]
          rw [hpo] at e
          exact HS0.out (Dv.str_inj (fun x hx => by cases hx) HSB.out e).symm
      have q1 : (A.toList == S.toList) = false := beq_eq_false_iff_ne.2 (In.ne_list hAS)
      have HF : Hid (GetX w 0 [] 0 4 (.returned (.tuple #[.int .i64 0, .slice none 0 0, .int .i64 4])) w4) := Lib.hid (get_bad T4.out.grown)
      clear h1 h2 hp hAS
      go_wp2
      go_ret3
      exact HF.out
theorem Get_c : GetC := by
  intro s w hb hl
  cases hh : headS s with
  | none =>
    have ho : outS s = (0, [], 4) := by unfold outS getS; rw [hh]
    rw [ho]
    exact get_no s hb hl hh w
  | some p =>
    obtain ⟨k, nl, z, r⟩ := p
    obtain ⟨K, L, E, hres⟩ : ∃ K L E, outS s = (K, L, E) := ⟨_, _, _, rfl⟩
    rw [hres]
    refine get_yes s hb hl k nl z r hh _ rfl K L L.length E ?_ rfl w
    rw [← hres]
    unfold outS getS
    rw [hh]
    dsimp only
    cases (if cnt nl = nl.length then some [] else cellsS k (nl.length - cnt nl) r) with
    | none => rfl
    | some cs =>
      unfold resS
      dsimp only
      by_cases hp : putS k (mergeS nl cs) = (0, s)
      · rw [if_pos hp, if_pos hp]
      · rw [if_neg hp, if_neg hp]
end Go.Proofs.YtljanfnhmhimiaaGreat.Sg
