/-
  What the program's and the document's functions do, in memory and as plain functions: SgPart, SgPut, SgGet.
-/

import Derived.Test.YtljanfnhmhimiaaGreatSnO
import Derived.Test.YtljanfnhmhimiaaGreatSnV
import Derived.Test.YtljanfnhmhimiaaGreatSnc

namespace Go.Proofs.YtljanfnhmhimiaaGreat.Sg
open Go.RowKit Go.Joins Zn Zr Dv

theorem null_take {l : List Cel} {k : Nat} (h : k < l.length) : nullsL (l.take (k + 1)) = nullsL (l.take k) ++ [decide ((l.getD k zeroC).k = 0)] := by
  rw [take_snoc l k h, nulls_app]; rfl
/-- part's answer: two own rows -/
def PartX (w : World) (l : List Cel) (n m : Nat) (e : Ending) (w' : World) : Prop :=
  ∃ a c b d, e = .returned (.tuple #[.slice a n c, .slice b m d]) ∧ w'.ownsRow w.heap.size 4 1 (.slice a n c) n ((nullsL l).map Value.bool) ∧ w'.ownsRow w.heap.size 24 3 (.slice b m d) m (flatC (someL l)) ∧ Turn w w' nowhere
theorem slice_of {w : World} {base e s n : Nat} {v : Value} {xs : List Value} (h : w.ownsRow base e s v n xs) : ∃ a c, v = .slice a n c := by
  rcases h.2 with ⟨rfl, h0⟩ | ⟨g, cap, cur, rfl, _⟩
  · subst h0; exact ⟨none, 0, rfl⟩
  · exact ⟨_, _, rfl⟩

set_option maxRecDepth 100000 in
set_option maxHeartbeats 4000000 in
theorem part_any (a : Option Addr) (n c m : Nat) (l : List Cel) (w : World) (hs : CSeg w a n c l) (hn : n ≤ 65536) (hm : (someL l).length = m) : Calls Tryz.prog 27 #[.slice a n c] w (PartX w l n m) := by
  obtain ⟨i0, ii, iz0, iz1, iz2⟩ := infoC_parts
  obtain ⟨j0, ji, jz0, jz1, jz2⟩ := info_parts Bl.info_bool
  have HS := Lib.hid hs
  have HL := Lib.hid hs.len
  have HM := Lib.hid hm
  clear hs hm
  go_enter Tryz.func27, Tryz.ntmps27
  go_wp2
  go_loopw [2, 3, 8] (fun nv sv iv wx => ∃ (k : Nat) (VN VS : Value), iv = .int .i64 k ∧ k ≤ n ∧ VN = nv ∧ VS = sv ∧ wx.ownsRow w.heap.size 4 1 VN k ((nullsL (l.take k)).map Value.bool) ∧ wx.ownsRow w.heap.size 24 3 VS (someL (l.take k)).length (flatC (someL (l.take k))) ∧ w.grownBy wx none) (fun _ _ iv _ => n - (intOf iv).toNat)
  case atStart => exact ⟨0, _, _, rfl, Nat.zero_le _, rfl, rfl, World.ownsRow_nil _ _ _ _, World.ownsRow_nil _ _ _ _, grown_refl _⟩
  case round =>
    obtain ⟨k, VN, VS, rfl, hk, rfl, rfl, rn, rs, hg⟩ := hrel
    have HG := Lib.hid hg
    have RN := Lib.hid rn
    have RS := Lib.hid rs
    have hgs := hg.size
    clear rn rs hg
    by_cases hlt : k < n
    · obtain ⟨B, O, rfl, hcs⟩ := (HS.out.old HG.out).form (by omega)
      obtain ⟨x, hx⟩ : ∃ x, x = l.getD k zeroC := ⟨_, rfl⟩
      have HXE := Lib.hid hx
      have hkl : k < l.length := by rw [HL.out]; exact hlt
      have ht := some_take hkl
      have hu := null_take hkl
      rw [← hx] at ht hu
      have HT := Lib.hid ht
      have HU := Lib.hid hu
      have hlen : (someL (l.take k)).length ≤ k := by
        have h1 := cnt_nulls (l.take k)
        rw [List.length_take] at h1
        omega
      clear hcs hx ht hu hkl
      have hlt2 : (k : Int) < (n : Int) := by omega
      obtain ⟨c0, c1, c2⟩ := cells_at (HS.out.old HG.out) hlt HXE.out
      by_cases hx0 : x.k = 0
      · have q1 : (x.k == 0) = true := beq_iff_eq.2 hx0
        have q2 : (x.k != 0) = false := by rw [bne, q1]; rfl
        have HT2 := Lib.hid (HT.out.trans (if_pos hx0))
        rw [decide_eq_true hx0] at HU
        clear hx0 HT
        go_upto_region 5 with (at_builtin; refine wpList_append_own _ rfl _ _ 44 rfl w.heap.size 4 j0 (.bool false) 1 1 Tryz.underlying44 ji jz0 jz1 jz2 rfl (by decide) VN k _ rfl (((RN.out.alloc _)).alloc _) ⟨wr.heap.size + 1, 0, none⟩ 1 1 [.bool true] rfl rfl (by intro y u hy; match y, hy with | 0, hy => simp at hy; subst hy; simp [Addr.add]) (by intro u hu; simp at hu; subst hu; rfl) (by unfold maxLen; omega) (by omega) (by simp; omega) ?_; intro V4 w4 hown4 hg4 hnil4)
        have RN4 : Hid (w4.ownsRow w.heap.size 4 1 V4 (k + 1) ((nullsL (l.take (k + 1))).map Value.bool)) := Lib.hid (by rw [HU.out, List.map_append]; exact hown4)
        have RS4 := Lib.hid (own_keep ((RS.out.alloc _).alloc _) hg4 (own_apart RS.out RN.out (by decide)))
        have HG4 := Lib.hid (Bs.grownBy_trans (grown_then (grown_then HG.out (grown_alloc _ _)) (grown_alloc _ _)) hg4 (fun i e => (RN.out.lt i e).1))
        have BX : Hid (CB w4 wr.heap.size x) := Lib.hid (by
          unfold CB
          rw [hg4.block wr.heap.size (by simp; omega) (fun e => by have := (RN.out.lt _ e.symm).2; omega)]
          exact (CB.new wr x).old (grown_alloc _ (.cells #[.bool true] 4)))
        clear hown4 hg4 hnil4 c0 c1 c2 RN RS HG
        obtain ⟨c0, c1, c2⟩ := BX.out.cells
        go_wp2
        go_roundw
        case rel => exact ⟨k + 1, _, _, by go_num, by omega, rfl, rfl, RN4.out, by rw [HT2.out]; exact RS4.out, HG4.out⟩
        case measure => simp [intOf]; omega
      · have q1 : (x.k == 0) = false := beq_eq_false_iff_ne.2 hx0
        have q2 : (x.k != 0) = true := by rw [bne, q1]; rfl
        have HT2 := Lib.hid (HT.out.trans (if_neg hx0))
        rw [decide_eq_false hx0] at HU
        clear hx0 HT
        go_upto_region 5 with (at_builtin; refine wpList_append_own _ rfl _ _ 44 rfl w.heap.size 4 j0 (.bool false) 1 1 Tryz.underlying44 ji jz0 jz1 jz2 rfl (by decide) VN k _ rfl (((RN.out.alloc _)).alloc _) ⟨wr.heap.size + 1, 0, none⟩ 1 1 [.bool false] rfl rfl (by intro y u hy; match y, hy with | 0, hy => simp at hy; subst hy; simp [Addr.add]) (by intro u hu; simp at hu; subst hu; rfl) (by unfold maxLen; omega) (by omega) (by simp; omega) ?_; intro V4 w4 hown4 hg4 hnil4)
        have RN4 : Hid (w4.ownsRow w.heap.size 4 1 V4 (k + 1) ((nullsL (l.take (k + 1))).map Value.bool)) := Lib.hid (by rw [HU.out, List.map_append]; exact hown4)
        have RS4 := Lib.hid (own_keep ((RS.out.alloc _).alloc _) hg4 (own_apart RS.out RN.out (by decide)))
        have HG4 := Lib.hid (Bs.grownBy_trans (grown_then (grown_then HG.out (grown_alloc _ _)) (grown_alloc _ _)) hg4 (fun i e => (RN.out.lt i e).1))
        have BX : Hid (CB w4 wr.heap.size x) := Lib.hid (by
          unfold CB
          rw [hg4.block wr.heap.size (by simp; omega) (fun e => by have := (RN.out.lt _ e.symm).2; omega)]
          exact (CB.new wr x).old (grown_alloc _ (.cells #[.bool false] 4)))
        clear hown4 hg4 hnil4 c0 c1 c2 RN RS HG
        obtain ⟨c0, c1, c2⟩ := BX.out.cells
        have HB4 := HG4.out.size
        go_wp2_with (at_builtin; refine wpList_append_own _ rfl _ _ 26 rfl w.heap.size 24 i0 (.agg #[.int .i64 0, .int .i64 0, .string ⟨#[]⟩]) 3 32 Tryz.underlying26 ii iz0 iz1 iz2 rfl (by decide) VS (someL (l.take k)).length _ rfl (RS4.out.alloc _) ⟨w4.heap.size, 0, none⟩ 1 1 (flatC [x]) rfl rfl (cell_lit w4 x) (by intro u hu; simp [flatC] at hu; rcases hu with rfl | rfl | rfl <;> rfl) (by unfold maxLen; omega) (by omega) (by simp; omega) ?_; intro V5 w5 hown5 hg5 hnil5)
        have RN5 := Lib.hid (own_keep (RN4.out.alloc _) hg5 (own_apart RN4.out RS4.out (by decide)))
        have HG5 := Lib.hid (Bs.grownBy_trans (grown_then HG4.out (grown_alloc _ _)) hg5 (fun i e => (RS4.out.lt i e).1))
        have RS5 : Hid (w5.ownsRow w.heap.size 24 3 V5 (someL (l.take (k + 1))).length (flatC (someL (l.take (k + 1))))) := Lib.hid (by
          rw [HT2.out, List.length_append, flatC_app]
          exact hown5)
        clear hown5 hg5 hnil5 c0 c1 c2 RN4 RS4 HG4 HB4 BX
        go_wp2
        go_roundw
        case rel => exact ⟨k + 1, _, _, by go_num, by omega, rfl, rfl, RN5.out, RS5.out, HG5.out⟩
        case measure => simp [intOf]; omega
    · obtain rfl : k = n := by omega
      have hT : l.take k = l := List.take_of_length_le (by rw [HL.out]; exact Nat.le_refl _)
      rw [hT] at RN RS
      rw [HM.out] at RS
      obtain ⟨an, cn, rfl⟩ := slice_of RN.out
      obtain ⟨ao, cs, rfl⟩ := slice_of RS.out
      have HF : Hid (PartX w l k m (.returned (.tuple #[.slice an k cn, .slice ao m cs])) wr) := Lib.hid ⟨_, _, _, _, rfl, RN.out, RS.out, Pk.turn_of HG.out⟩
      clear hT RN RS hlt
      go_wp2
      go_ret2
      exact HF.out
end Go.Proofs.YtljanfnhmhimiaaGreat.Sg

namespace Go.Proofs.YtljanfnhmhimiaaGreat.Sg
open Go.RowKit Go.Joins Zn Zr Dv
open Nu (encN cnt)

theorem bl_of {w : World} {base e n c : Nat} {a : Option Addr} {l : List Bool} (h : w.ownsRow base e 1 (.slice a n c) n (l.map Value.bool)) : Bl.Seg w a n c l := by
  rcases h.2 with ⟨e1, h0⟩ | ⟨g, cap, cur, e1, _⟩
  · cases e1
    have hl := h.1
    rw [List.length_map] at hl
    obtain rfl : l = [] := List.length_eq_zero_iff.1 (by omega)
    exact Bl.Seg.nil w
  · cases e1
    exact Bl.Seg.own h
theorem zb_wrote {w w' : World} {B b g : Nat} {l : List Int} {z : Zon} (hB : Bd w B b l) (k : Wrote w B b w') (h : ZB w g z) : ZB w' g z := heap_wrote hB k h (by decide) (by decide)
theorem zb_old {w w' : World} {g : Nat} {z : Zon} (h : ZB w g z) (k : Turn w w' nowhere) : ZB w' g z := h.old k.grown

theorem bit_of {c : Cel} (h : CelOk 2 c) : 0 ≤ c.n ∧ c.n < 2 := by
  have hk := h.k
  rcases cell_form h.ok with q | q | q | q
  · omega
  · omega
  · have := q.2.1; omega
  · omega
theorem cellB_pos (c : Cel) : 0 < (cellB c).length := by
  unfold cellB
  by_cases e1 : c.k = 1
  · rw [if_pos e1, In.num8_length]; omega
  · rw [if_neg e1]
    by_cases e2 : c.k = 2
    · rw [if_pos e2]; simp
    · rw [if_neg e2]
      unfold Tx.strB
      rw [List.length_append]
      have := Oct.varB_pos 9 ((nm c.s).length : Int)
      omega
theorem best_len_ok {l : List Int} (h : l.length ≤ 4096) : 0 < (In.bestB l).length ∧ (In.bestB l).length ≤ 300000000 := by
  rcases In.best_cases l with e | e | e <;> rw [e]
  · have := In.encB_len 1 l h; omega
  · have := In.encB_len 2 l h; omega
  · have := In.encB_len 3 l h; omega
theorem bits_len_ok {l : List Cel} (h : ∀ c ∈ l, CelOk 2 c) (h0 : 0 < l.length) (hl : l.length ≤ 4096) : 0 < (Pk.putR (l.map (·.n)) 1).2.length ∧ (Pk.putR (l.map (·.n)) 1).2.length ≤ 300000000 := by
  have hf := fit_of h
  have hu := Pk.fit_isU hf (by omega)
  have hc : Pk.canB (l.map (·.n)).length 1 = true := (Pk.canB_iff _ _).2 ⟨by omega, by rw [List.length_map]; omega, by omega, by omega⟩
  have hok : (Pk.putR (l.map (·.n)) 1).1 = 0 := by
    rw [Pk.put_ok]
    refine ⟨hc, ?_⟩
    have := (Pk.wid_le (l.map (·.n)) 1 hu.nonneg).2 hf
    omega
  have h1 := Pk.put_size _ _ hok
  unfold Pk.sizeF at h1
  rw [if_pos hc, List.length_map] at h1
  have h2 := Pk.put_len (l.map (·.n)) 1
  have h3 : Pk.sizeN ((l.length : Int)).toNat (1 : Int).toNat = (l.length * 1 + 7) / 8 := by rw [Int.toNat_natCast]; rfl
  rw [h3] at h1
  omega
theorem texts_len_ok {l : List Cel} (h : ∀ c ∈ l, CelOk 3 c) (hl : l.length ≤ 4096) : 0 < (Tx.bestT (l.map fun c => nm c.s)).length ∧ (Tx.bestT (l.map fun c => nm c.s)).length ≤ 300000000 := by
  have hb := body_len 3 hl h
  have e : bodyS 3 l = Tx.bestT (l.map fun c => nm c.s) := by unfold bodyS; rw [if_neg (by decide), if_neg (by decide)]
  rw [e] at hb
  refine ⟨?_, hb⟩
  unfold Tx.bestT
  split
  · unfold Tx.dictT
    rw [List.length_cons]
    omega
  · unfold Tx.plainT
    rw [List.length_cons]
    omega

/-- Put's answer -/
def PutX (w : World) (kind : Int) (l : List Cel) (e : Ending) (w' : World) : Prop := e = .returned (.tuple #[.string (strOfNums (putS kind l).2), .int .i64 (putS kind l).1]) ∧ w.grownBy w' none
theorem turn_base {w0 w w' : World} (h : Turn w0 w nowhere) (k : Below w0.heap.size w w') : Turn w0 w' nowhere :=
  ⟨k.os.trans h.os, k.tape.trans h.tape, k.output.trans h.output, Nat.le_trans h.size k.size, fun i hi hn => (k.block i hi).trans (h.block i hi hn)⟩

set_option maxRecDepth 100000 in
set_option maxHeartbeats 8000000 in
theorem Put_any (kind : Int) (a : Option Addr) (n c : Nat) (l : List Cel) (w : World) (hs : CSeg w a n c l) (hi : IntOk l) : Calls Tryz.prog 11 #[.int .i64 kind, .slice a n c] w (PutX w kind l) := by
  have HS := Lib.hid hs
  have HL := Lib.hid hs.len
  have HCK := Lib.hid (Check_any kind a n c l w hs)
  obtain ⟨E, hE⟩ : ∃ E, E = checkS kind l := ⟨_, rfl⟩
  rw [← hE] at HCK
  clear hs
  by_cases h0 : E = 0
  · have hcol : Col kind l := check_iff.1 (by rw [← hE]; exact h0)
    have q0 : (E != 0) = false := by rw [h0]; rfl
    have HCOL := Lib.hid hcol
    have hn : n ≤ 4096 := by rw [← HL.out]; exact hcol.few
    have HR : Hid (putS kind l = (0, encS kind l)) := Lib.hid (put_of hcol)
    obtain ⟨m, hm⟩ : ∃ m, (someL l).length = m := ⟨_, rfl⟩
    have hel := Nu.enc_len (l := nullsL l) (by rw [nulls_len, HL.out]; omega)
    obtain ⟨q, hq⟩ : ∃ q, (encN (nullsL l)).length = q := ⟨_, rfl⟩
    have hk1 := hcol.k1
    have hk3 := hcol.k3
    have hku : IntKind.u8.wrap kind = kind := by rw [IntKind.wrap_u8]; omega
    rw [hq] at hel
    have hmk : m ≤ n := by
      have h1 := cnt_nulls l
      have h2 := HL.out
      omega
    have HM := Lib.hid hm
    have HQ := Lib.hid hq
    have HI := Lib.hid hi
    clear h0 hE hcol hm hq hi
    go_enter Tryz.func11, Tryz.ntmps11
    go_wp2_with fail
    refine HCK.out.mono ?_
    rintro e w1 ⟨rfl, hg⟩
    have T1 := Lib.hid (Pk.turn_of hg)
    have HPA := Lib.hid (part_any a n c m l w1 (HS.out.old hg) (by omega) HM.out)
    clear hg HCK
    dsimp only
    go_wp2_with fail
    refine HPA.out.mono ?_
    rintro e w2 ⟨an, cn, bs, ds, rfl, rn, rs, ht2⟩
    have T2 := Lib.hid (T1.out.trans ht2 (fun _ _ h => h))
    have RS2 := Lib.hid rs
    have h12 : w.heap.size ≤ w1.heap.size := T1.out.size
    have HPN := Lib.hid (Nu.put_form (l := nullsL l) (E := 0) (B := encN (nullsL l)) (m := q) (by unfold Nu.putN; rw [if_neg (by rw [nulls_len, HL.out]; omega)]) HQ.out an n cn w2 (bl_of rn))
    clear rn rs ht2 HPA T1
    dsimp only
    go_wp2_with fail
    refine HPN.out.mono ?_
    rintro e w3 ⟨a3, k3, rfl, hs3, ht3⟩
    have T3 := Lib.hid (T2.out.trans ht3 (fun _ _ h => h))
    have RS3 := Lib.hid (own_grow RS2.out ht3.grown)
    have SF3 := Lib.hid hs3
    have HB3 := T3.out.size
    have hq0 : 0 < q := by omega
    have HWB := Lib.hid (writeByte_fresh w.heap.size w3.heap.size kind (w3.alloc (.cells #[.pointer none, .slice none 0 0] 56)) HB3 (heap_alloc_new w3 _) (by simp; omega))
    obtain ⟨b, hb⟩ : ∃ b, b = w3.heap.size := ⟨_, rfl⟩
    have HBB := Lib.hid hb
    clear hs3 ht3 HPN T2 RS2
    dsimp only
    go_wp2_with fail
    refine HWB.out.mono ?_
    rintro e w4 ⟨rfl, hbd4, ht4⟩
    have hg4 : w3.grownBy w4 none := grown_put (grown_alloc w3 _) ht4 (Nat.le_refl _)
    have T4 := Lib.hid (T3.out.trans (Pk.turn_of hg4) (fun _ _ h => h))
    have RS4 := Lib.hid (own_grow RS3.out hg4)
    have h34 := hg4.size
    rw [← HBB.out] at hbd4 h34
    rw [← HBB.out]
    have HW1 := Lib.hid (write_any w.heap.size b [kind] (encN (nullsL l)) a3 q k3 w4 hbd4 (by omega) (SF3.out.grown hg4) hq0 (by simp; omega))
    have hwb : w.heap.size ≤ b := by rw [HBB.out]; exact HB3
    have HBD4 := Lib.hid hbd4
    clear hbd4 ht4 hg4 HWB T3 RS3 SF3 hb HBB
    dsimp only
    go_wp2_with fail
    refine HW1.out.mono ?_
    rintro e w5 ⟨rfl, hbd5, hw5⟩
    have T5 := Lib.hid (Wrote.base T4.out hw5 hwb)
    have RS5 := Lib.hid (own_wrote HBD4.out hw5 RS4.out (by decide) (by decide))
    have HBD5 := Lib.hid hbd5
    have hB5 : Bs.IsB ([kind] ++ encN (nullsL l)) := by
      intro x hx
      rcases List.mem_append.1 hx with hx | hx
      · rw [List.mem_singleton] at hx; omega
      · exact Nu.enc_isB (by rw [nulls_len, HL.out]; omega) x hx
    have h45 : w.heap.size ≤ w5.heap.size := T5.out.size
    clear hbd5 hw5 HW1 HBD4 T4 RS4 HB3 h34
    dsimp only
    by_cases hs0 : someL l = []
    · have hm0 : m = 0 := by rw [← HM.out, hs0]; rfl
      have HT : Hid (encS kind l = [kind] ++ encN (nullsL l)) := Lib.hid (by unfold encS tailS; rw [if_pos hs0, List.append_nil]; rfl)
      have hmz : ¬ (0 : Int) < (m : Int) := by omega
      have HST := Lib.hid (string_any w.heap.size b _ w5 HBD5.out (by simp) hB5)
      clear hs0 hm0 RS5 HBD5 hB5
      go_wp2_with fail
      refine HST.out.mono ?_
      rintro e w6 ⟨rfl, hb6⟩
      have HF : Hid (PutX w kind l (.returned (.tuple #[.string (strOfNums ([kind] ++ encN (nullsL l))), .int .i64 0])) w6) := Lib.hid ⟨by rw [HR.out, HT.out], (turn_base T5.out hb6).grown⟩
      clear hb6 HST
      dsimp only
      go_wp2
      go_ret2
      exact HF.out
    · have hm0 : 0 < m := by rw [← HM.out]; exact List.length_pos_iff.2 hs0
      have HT : Hid (encS kind l = [kind] ++ (encN (nullsL l) ++ (cellB (ofZ l).min ++ (cellB (ofZ l).max ++ bodyS kind (someL l))))) := Lib.hid (by unfold encS tailS; rw [if_neg hs0]; rfl)
      obtain ⟨o1, o2, m1, m2, _⟩ := min_of HCOL.out hs0
      have hof := of_some l
      have hmp : (0 : Int) < (m : Int) := by omega
      obtain ⟨z, hz⟩ : ∃ z, z = ofZ (someL l) := ⟨_, rfl⟩
      have HOF := Lib.hid (fun W hs => Of_any bs m ds (someL l) W hs (by omega))
      rw [← hz] at HOF hof
      rw [hof.1, hof.2.1] at HT
      rw [hof.1] at o1
      rw [hof.2.1] at o2
      have HSM := Lib.hid HCOL.out.some
      have HSI : Hid (IntOk (someL l)) := Lib.hid (fun x hx => HI.out x (some_mem.1 hx).1)
      have HMIN := Lib.hid o1
      have HMAX := Lib.hid o2
      have HCO := Lib.hid (coderOf_any kind w5 hk1 hk3)
      have hlB : ([kind] ++ encN (nullsL l)).length = 1 + q := by rw [List.length_append, HQ.out]; rfl
      have HLB := Lib.hid hlB
      clear hs0 hz hof o1 o2 m1 m2 hlB
      go_wp2_with fail
      refine HCO.out.mono ?_
      rintro e w6 ⟨v, rfl, hv, ht6⟩
      have T6 := Lib.hid (T5.out.trans ht6 (fun _ _ h => h))
      have RS6 := Lib.hid (own_grow RS5.out ht6.grown)
      have BD6 := Lib.hid (bd_old HBD5.out ht6)
      have HV := Lib.hid hv
      have HO6 := Lib.hid (HOF.out w6 (cseg_at RS6.out HM.out))
      clear hv ht6 HCO T5 RS5 HBD5 HOF
      dsimp only
      go_wp2_with fail
      refine HO6.out.mono ?_
      rintro e w7 ⟨rfl, hg7⟩
      have T7 := Lib.hid (T6.out.trans (Pk.turn_of (grown_then hg7 (grown_alloc w7 (.cells #[.int .i64 z.cnt, .int .i64 z.nul, .int .i64 z.min.k, .int .i64 z.min.n, .string z.min.s, .int .i64 z.max.k, .int .i64 z.max.n, .string z.max.s] 33)))) (fun _ _ h => h))
      have RS7 := Lib.hid (own_grow RS6.out (grown_then hg7 (grown_alloc w7 (.cells #[.int .i64 z.cnt, .int .i64 z.nul, .int .i64 z.min.k, .int .i64 z.min.n, .string z.min.s, .int .i64 z.max.k, .int .i64 z.max.n, .string z.max.s] 33))))
      have BD7 := Lib.hid (bd_old BD6.out (Pk.turn_of (grown_then hg7 (grown_alloc w7 (.cells #[.int .i64 z.cnt, .int .i64 z.nul, .int .i64 z.min.k, .int .i64 z.min.n, .string z.min.s, .int .i64 z.max.k, .int .i64 z.max.n, .string z.max.s] 33)))))
      have ZB7 := Lib.hid (ZB.new w7 z)
      obtain ⟨W8, hW8⟩ : ∃ V, w7.alloc (.cells #[.int .i64 z.cnt, .int .i64 z.nul, .int .i64 z.min.k, .int .i64 z.min.n, .string z.min.s, .int .i64 z.max.k, .int .i64 z.max.n, .string z.max.s] 33) = V := ⟨_, rfl⟩
      rw [hW8] at T7 RS7 BD7 ZB7
      obtain ⟨zb, hzb⟩ : ∃ g, g = w7.heap.size := ⟨_, rfl⟩
      rw [← hzb] at ZB7
      have HW8 := Lib.hid hW8
      have HZB := Lib.hid hzb
      have HX7 : ∀ x, x = w7 → True := fun _ _ => trivial
      clear hg7 HO6 T6 RS6 BD6 hW8 hzb HX7
      dsimp only
      rcases HV.out with ⟨hk, cb, hcv, -⟩ | ⟨hk, hcv⟩ | ⟨hk, cb, hcv, -⟩
      · subst hk hcv
        go_upto_region 11 with (fail)
        rw [HW8.out, ← HZB.out]
        have h78 := T7.out.size
        obtain ⟨-, -, ⟨c0, c1, c2⟩, -, -, -⟩ := ZB7.out.cells
        have hmeth := fun W => meth_putCell_I cb W
        have HE1 : Hid (cellB z.min = In.num8 z.min.n) := Lib.hid (if_pos HMIN.out.k)
        have HE2 : Hid (cellB z.max = In.num8 z.max.n) := Lib.hid (if_pos HMAX.out.k)
        have HE3 : Hid (bodyS 1 (someL l) = In.bestB ((someL l).map (·.n))) := Lib.hid (if_pos rfl)
        have HP1 := Lib.hid (putCell_I cb z.min  W8)
        go_wp2_with fail
        refine HP1.out.mono ?_
        rintro e w9 ⟨a9, k9, rfl, hs9, ht9⟩
        have T9 := Lib.hid (T7.out.trans ht9 (fun _ _ h => h))
        have RS9 := Lib.hid (own_grow RS7.out ht9.grown)
        have BD9 := Lib.hid (bd_old BD7.out ht9)
        have ZB9 := Lib.hid (zb_old ZB7.out ht9)
        have h79 := T9.out.size
        have HW := Lib.hid (write_any w.heap.size b ([1] ++ encN (nullsL l)) (In.num8 z.min.n) a9 8 k9 w9 BD9.out (by omega) hs9 (by omega) (by rw [HLB.out]; omega))
        clear hs9 ht9 HP1 T7 RS7 BD7 ZB7 c0 c1 c2
        dsimp only
        go_wp2_with fail
        refine HW.out.mono ?_
        rintro e w10 ⟨rfl, hbd10, hw10⟩
        have T10 := Lib.hid (Wrote.base T9.out hw10 hwb)
        have RS10 := Lib.hid (own_wrote BD9.out hw10 RS9.out (by decide) (by decide))
        have ZB10 := Lib.hid (zb_wrote BD9.out hw10 ZB9.out)
        have BD10 := Lib.hid hbd10
        clear hbd10 hw10 HW T9 RS9 BD9 ZB9
        dsimp only
        obtain ⟨-, -, -, c0, c1, c2⟩ := ZB10.out.cells
        have HP2 := Lib.hid (putCell_I cb z.max  w10)
        go_wp2_with fail
        refine HP2.out.mono ?_
        rintro e w11 ⟨a11, k11, rfl, hs11, ht11⟩
        have T11 := Lib.hid (T10.out.trans ht11 (fun _ _ h => h))
        have RS11 := Lib.hid (own_grow RS10.out ht11.grown)
        have BD11 := Lib.hid (bd_old BD10.out ht11)
        have h711 := T11.out.size
        have HW2 := Lib.hid (write_any w.heap.size b ([1] ++ encN (nullsL l) ++ (In.num8 z.min.n)) (In.num8 z.max.n) a11 8 k11 w11 BD11.out (by omega) hs11 (by omega) (by rw [List.length_append, HLB.out, In.num8_length]; omega))
        clear hs11 ht11 HP2 T10 RS10 BD10 ZB10 c0 c1 c2
        dsimp only
        go_wp2_with fail
        refine HW2.out.mono ?_
        rintro e w12 ⟨rfl, hbd12, hw12⟩
        have T12 := Lib.hid (Wrote.base T11.out hw12 hwb)
        have RS12 := Lib.hid (own_wrote BD11.out hw12 RS11.out (by decide) (by decide))
        have BD12 := Lib.hid hbd12
        clear hbd12 hw12 HW2 T11 RS11 BD11 hmeth
        dsimp only
        have hmeth := fun W => meth_putCells_I cb W
        obtain ⟨M, hM⟩ : ∃ M, (In.bestB ((someL l).map (·.n))).length = M := ⟨_, rfl⟩
        have HML := Lib.hid hM
        have hM1 : 0 < M ∧ M ≤ 300000000 := by rw [← hM]; exact best_len_ok (by rw [List.length_map, HM.out]; omega)
        have HPS := Lib.hid (putCells_I cb bs m ds M (someL l) w12 (cseg_at RS12.out HM.out) (by omega) HSI.out hM)
        clear hM
        go_wp2_with fail
        refine HPS.out.mono ?_
        rintro e w13 ⟨a13, k13, rfl, hs13, ht13⟩
        have T13 := Lib.hid (T12.out.trans ht13 (fun _ _ h => h))
        have BD13 := Lib.hid (bd_old BD12.out ht13)
        have h713 := T13.out.size
        have X0 := write_any w.heap.size b ([1] ++ encN (nullsL l) ++ (In.num8 z.min.n) ++ (In.num8 z.max.n)) (In.bestB ((someL l).map (·.n))) a13 M k13 w13
        have X1 := X0 BD13.out
        have X2 := X1 (by omega)
        have X3 := X2 hs13
        have X4 := X3 hM1.1
        have X5 := X4 (by rw [List.length_append, List.length_append, HLB.out, In.num8_length, In.num8_length]; omega)
        have HW3 := Lib.hid X5
        clear X0 X1 X2 X3 X4 X5
        clear hs13 ht13 HPS T12 RS12 BD12 hmeth
        dsimp only
        go_wp2_with fail
        refine HW3.out.mono ?_
        rintro e w14 ⟨rfl, hbd14, hw14⟩
        have T14 := Lib.hid (Wrote.base T13.out hw14 hwb)
        have HEN : Hid ([1] ++ encN (nullsL l) ++ (In.num8 z.min.n) ++ (In.num8 z.max.n) ++ In.bestB ((someL l).map (·.n)) = encS 1 l) := Lib.hid (by
          rw [HT.out, HE1.out, HE2.out, HE3.out]
          simp only [List.append_assoc])
        have HST := Lib.hid (string_any w.heap.size b ([1] ++ encN (nullsL l) ++ (In.num8 z.min.n) ++ (In.num8 z.max.n) ++ In.bestB ((someL l).map (·.n))) w14 hbd14 (by simp) (by rw [HEN.out]; exact enc_isB HCOL.out))
        clear hbd14 hw14 HW3 T13 BD13
        dsimp only
        go_wp2_with fail
        refine HST.out.mono ?_
        rintro e w15 ⟨rfl, hb15⟩
        have HF : Hid (PutX w 1 l (.returned (.tuple #[.string (strOfNums ([1] ++ encN (nullsL l) ++ (In.num8 z.min.n) ++ (In.num8 z.max.n) ++ In.bestB ((someL l).map (·.n)))), .int .i64 0])) w15) := Lib.hid ⟨by rw [HR.out, HEN.out], (turn_base T14.out hb15).grown⟩
        clear hb15 HST
        dsimp only
        go_wp2
        go_ret2
        exact HF.out
      · subst hk hcv
        go_upto_region 11 with (fail)
        rw [HW8.out, ← HZB.out]
        have h78 := T7.out.size
        obtain ⟨-, -, ⟨c0, c1, c2⟩, -, -, -⟩ := ZB7.out.cells
        have hmeth := fun W => meth_putCell_B W
        have HE1 : Hid (cellB z.min = [z.min.n]) := Lib.hid (by unfold cellB; rw [if_neg (by rw [HMIN.out.k]; decide), if_pos HMIN.out.k])
        have HE2 : Hid (cellB z.max = [z.max.n]) := Lib.hid (by unfold cellB; rw [if_neg (by rw [HMAX.out.k]; decide), if_pos HMAX.out.k])
        have HE3 : Hid (bodyS 2 (someL l) = (Pk.putR ((someL l).map (·.n)) 1).2) := Lib.hid (by unfold bodyS; rw [if_neg (by decide), if_pos rfl])
        have hmn := celok_bit HMIN.out HMIN.out.k
        have hmx := celok_bit HMAX.out HMAX.out.k
        have HP1 := Lib.hid (putCell_B z.min hmn.1 hmn.2 W8)
        go_wp2_with fail
        refine HP1.out.mono ?_
        rintro e w9 ⟨a9, k9, rfl, hs9, ht9⟩
        have T9 := Lib.hid (T7.out.trans ht9 (fun _ _ h => h))
        have RS9 := Lib.hid (own_grow RS7.out ht9.grown)
        have BD9 := Lib.hid (bd_old BD7.out ht9)
        have ZB9 := Lib.hid (zb_old ZB7.out ht9)
        have h79 := T9.out.size
        have HW := Lib.hid (write_any w.heap.size b ([2] ++ encN (nullsL l)) [z.min.n] a9 1 k9 w9 BD9.out (by omega) hs9 (by omega) (by rw [HLB.out]; omega))
        clear hs9 ht9 HP1 T7 RS7 BD7 ZB7 c0 c1 c2
        dsimp only
        go_wp2_with fail
        refine HW.out.mono ?_
        rintro e w10 ⟨rfl, hbd10, hw10⟩
        have T10 := Lib.hid (Wrote.base T9.out hw10 hwb)
        have RS10 := Lib.hid (own_wrote BD9.out hw10 RS9.out (by decide) (by decide))
        have ZB10 := Lib.hid (zb_wrote BD9.out hw10 ZB9.out)
        have BD10 := Lib.hid hbd10
        clear hbd10 hw10 HW T9 RS9 BD9 ZB9
        dsimp only
        obtain ⟨-, -, -, c0, c1, c2⟩ := ZB10.out.cells
        have HP2 := Lib.hid (putCell_B z.max hmx.1 hmx.2 w10)
        go_wp2_with fail
        refine HP2.out.mono ?_
        rintro e w11 ⟨a11, k11, rfl, hs11, ht11⟩
        have T11 := Lib.hid (T10.out.trans ht11 (fun _ _ h => h))
        have RS11 := Lib.hid (own_grow RS10.out ht11.grown)
        have BD11 := Lib.hid (bd_old BD10.out ht11)
        have h711 := T11.out.size
        have HW2 := Lib.hid (write_any w.heap.size b ([2] ++ encN (nullsL l) ++ [z.min.n]) [z.max.n] a11 1 k11 w11 BD11.out (by omega) hs11 (by omega) (by rw [List.length_append, HLB.out, List.length_singleton]; omega))
        clear hs11 ht11 HP2 T10 RS10 BD10 ZB10 c0 c1 c2
        dsimp only
        go_wp2_with fail
        refine HW2.out.mono ?_
        rintro e w12 ⟨rfl, hbd12, hw12⟩
        have T12 := Lib.hid (Wrote.base T11.out hw12 hwb)
        have RS12 := Lib.hid (own_wrote BD11.out hw12 RS11.out (by decide) (by decide))
        have BD12 := Lib.hid hbd12
        clear hbd12 hw12 HW2 T11 RS11 BD11 hmeth
        dsimp only
        have hmeth := fun W => meth_putCells_B W
        obtain ⟨M, hM⟩ : ∃ M, ((Pk.putR ((someL l).map (·.n)) 1).2).length = M := ⟨_, rfl⟩
        have HML := Lib.hid hM
        have hM1 : 0 < M ∧ M ≤ 300000000 := by rw [← hM]; exact bits_len_ok HSM.out (by rw [HM.out]; omega) (by rw [HM.out]; omega)
        have HPS := Lib.hid (putCells_B bs m ds M (someL l) w12 (cseg_at RS12.out HM.out) (by omega) (fun x hx => bit_of (HSM.out x hx)) hM)
        clear hM
        go_wp2_with fail
        refine HPS.out.mono ?_
        rintro e w13 ⟨a13, k13, rfl, hs13, ht13⟩
        have T13 := Lib.hid (T12.out.trans ht13 (fun _ _ h => h))
        have BD13 := Lib.hid (bd_old BD12.out ht13)
        have h713 := T13.out.size
        have X0 := write_any w.heap.size b ([2] ++ encN (nullsL l) ++ [z.min.n] ++ [z.max.n]) ((Pk.putR ((someL l).map (·.n)) 1).2) a13 M k13 w13
        have X1 := X0 BD13.out
        have X2 := X1 (by omega)
        have X3 := X2 hs13
        have X4 := X3 hM1.1
        have X5 := X4 (by rw [List.length_append, List.length_append, HLB.out, List.length_singleton, List.length_singleton]; omega)
        have HW3 := Lib.hid X5
        clear X0 X1 X2 X3 X4 X5
        clear hs13 ht13 HPS T12 RS12 BD12 hmeth
        dsimp only
        go_wp2_with fail
        refine HW3.out.mono ?_
        rintro e w14 ⟨rfl, hbd14, hw14⟩
        have T14 := Lib.hid (Wrote.base T13.out hw14 hwb)
        have HEN : Hid ([2] ++ encN (nullsL l) ++ [z.min.n] ++ [z.max.n] ++ (Pk.putR ((someL l).map (·.n)) 1).2 = encS 2 l) := Lib.hid (by
          rw [HT.out, HE1.out, HE2.out, HE3.out]
          simp only [List.append_assoc])
        have HST := Lib.hid (string_any w.heap.size b ([2] ++ encN (nullsL l) ++ [z.min.n] ++ [z.max.n] ++ (Pk.putR ((someL l).map (·.n)) 1).2) w14 hbd14 (by simp) (by rw [HEN.out]; exact enc_isB HCOL.out))
        clear hbd14 hw14 HW3 T13 BD13
        dsimp only
        go_wp2_with fail
        refine HST.out.mono ?_
        rintro e w15 ⟨rfl, hb15⟩
        have HF : Hid (PutX w 2 l (.returned (.tuple #[.string (strOfNums ([2] ++ encN (nullsL l) ++ [z.min.n] ++ [z.max.n] ++ (Pk.putR ((someL l).map (·.n)) 1).2)), .int .i64 0])) w15) := Lib.hid ⟨by rw [HR.out, HEN.out], (turn_base T14.out hb15).grown⟩
        clear hb15 HST
        dsimp only
        go_wp2
        go_ret2
        exact HF.out
      · subst hk hcv
        go_upto_region 11 with (fail)
        rw [HW8.out, ← HZB.out]
        have h78 := T7.out.size
        obtain ⟨-, -, ⟨c0, c1, c2⟩, -, -, -⟩ := ZB7.out.cells
        have hmeth := fun W => meth_putCell_T cb W
        have HE1 : Hid (cellB z.min = Tx.strB (nm z.min.s)) := Lib.hid (by unfold cellB; rw [if_neg (by rw [HMIN.out.k]; decide), if_neg (by rw [HMIN.out.k]; decide)])
        have HE2 : Hid (cellB z.max = Tx.strB (nm z.max.s)) := Lib.hid (by unfold cellB; rw [if_neg (by rw [HMAX.out.k]; decide), if_neg (by rw [HMAX.out.k]; decide)])
        have HE3 : Hid (bodyS 3 (someL l) = Tx.bestT ((someL l).map fun c => nm c.s)) := Lib.hid (by unfold bodyS; rw [if_neg (by decide), if_neg (by decide)])
        obtain ⟨x1, hx1⟩ : ∃ m, (Tx.strB (nm z.min.s)).length = m := ⟨_, rfl⟩
        obtain ⟨x2, hx2⟩ : ∃ m, (Tx.strB (nm z.max.s)).length = m := ⟨_, rfl⟩
        have hxb : 0 < x1 ∧ x1 ≤ 65600 ∧ 0 < x2 ∧ x2 ≤ 65600 := by
          rw [← hx1, ← hx2, ← HE1.out, ← HE2.out]
          exact ⟨cellB_pos z.min, cellB_len HMIN.out, cellB_pos z.max, cellB_len HMAX.out⟩
        have HX1 := Lib.hid hx1
        have HX2 := Lib.hid hx2
        clear hx1 hx2
        have HP1 := Lib.hid (putCell_T cb z.min (cell_len HMIN.out.ok) x1 HX1.out W8)
        go_wp2_with fail
        refine HP1.out.mono ?_
        rintro e w9 ⟨a9, k9, rfl, hs9, ht9⟩
        have T9 := Lib.hid (T7.out.trans ht9 (fun _ _ h => h))
        have RS9 := Lib.hid (own_grow RS7.out ht9.grown)
        have BD9 := Lib.hid (bd_old BD7.out ht9)
        have ZB9 := Lib.hid (zb_old ZB7.out ht9)
        have h79 := T9.out.size
        have HW := Lib.hid (write_any w.heap.size b ([3] ++ encN (nullsL l)) (Tx.strB (nm z.min.s)) a9 x1 k9 w9 BD9.out (by omega) hs9 (by omega) (by rw [HLB.out]; omega))
        clear hs9 ht9 HP1 T7 RS7 BD7 ZB7 c0 c1 c2
        dsimp only
        go_wp2_with fail
        refine HW.out.mono ?_
        rintro e w10 ⟨rfl, hbd10, hw10⟩
        have T10 := Lib.hid (Wrote.base T9.out hw10 hwb)
        have RS10 := Lib.hid (own_wrote BD9.out hw10 RS9.out (by decide) (by decide))
        have ZB10 := Lib.hid (zb_wrote BD9.out hw10 ZB9.out)
        have BD10 := Lib.hid hbd10
        clear hbd10 hw10 HW T9 RS9 BD9 ZB9
        dsimp only
        obtain ⟨-, -, -, c0, c1, c2⟩ := ZB10.out.cells
        have HP2 := Lib.hid (putCell_T cb z.max (cell_len HMAX.out.ok) x2 HX2.out w10)
        go_wp2_with fail
        refine HP2.out.mono ?_
        rintro e w11 ⟨a11, k11, rfl, hs11, ht11⟩
        have T11 := Lib.hid (T10.out.trans ht11 (fun _ _ h => h))
        have RS11 := Lib.hid (own_grow RS10.out ht11.grown)
        have BD11 := Lib.hid (bd_old BD10.out ht11)
        have h711 := T11.out.size
        have HW2 := Lib.hid (write_any w.heap.size b ([3] ++ encN (nullsL l) ++ (Tx.strB (nm z.min.s))) (Tx.strB (nm z.max.s)) a11 x2 k11 w11 BD11.out (by omega) hs11 (by omega) (by rw [List.length_append, HLB.out, HX1.out]; omega))
        clear hs11 ht11 HP2 T10 RS10 BD10 ZB10 c0 c1 c2
        dsimp only
        go_wp2_with fail
        refine HW2.out.mono ?_
        rintro e w12 ⟨rfl, hbd12, hw12⟩
        have T12 := Lib.hid (Wrote.base T11.out hw12 hwb)
        have RS12 := Lib.hid (own_wrote BD11.out hw12 RS11.out (by decide) (by decide))
        have BD12 := Lib.hid hbd12
        clear hbd12 hw12 HW2 T11 RS11 BD11 hmeth
        dsimp only
        have hmeth := fun W => meth_putCells_T cb W
        obtain ⟨M, hM⟩ : ∃ M, (Tx.bestT ((someL l).map fun c => nm c.s)).length = M := ⟨_, rfl⟩
        have HML := Lib.hid hM
        have hM1 : 0 < M ∧ M ≤ 300000000 := by rw [← hM]; exact texts_len_ok HSM.out (by rw [HM.out]; omega)
        have HPS := Lib.hid (putCells_T cb bs m ds M (someL l) w12 (cseg_at RS12.out HM.out) (by omega) (fun x hx => cell_len (HSM.out x hx).ok) hM)
        clear hM
        go_wp2_with fail
        refine HPS.out.mono ?_
        rintro e w13 ⟨a13, k13, rfl, hs13, ht13⟩
        have T13 := Lib.hid (T12.out.trans ht13 (fun _ _ h => h))
        have BD13 := Lib.hid (bd_old BD12.out ht13)
        have h713 := T13.out.size
        have X0 := write_any w.heap.size b ([3] ++ encN (nullsL l) ++ (Tx.strB (nm z.min.s)) ++ (Tx.strB (nm z.max.s))) (Tx.bestT ((someL l).map fun c => nm c.s)) a13 M k13 w13
        have X1 := X0 BD13.out
        have X2 := X1 (by omega)
        have X3 := X2 hs13
        have X4 := X3 hM1.1
        have X5 := X4 (by rw [List.length_append, List.length_append, HLB.out, HX1.out, HX2.out]; omega)
        have HW3 := Lib.hid X5
        clear X0 X1 X2 X3 X4 X5
        clear hs13 ht13 HPS T12 RS12 BD12 hmeth
        dsimp only
        go_wp2_with fail
        refine HW3.out.mono ?_
        rintro e w14 ⟨rfl, hbd14, hw14⟩
        have T14 := Lib.hid (Wrote.base T13.out hw14 hwb)
        have HEN : Hid ([3] ++ encN (nullsL l) ++ (Tx.strB (nm z.min.s)) ++ (Tx.strB (nm z.max.s)) ++ Tx.bestT ((someL l).map fun c => nm c.s) = encS 3 l) := Lib.hid (by
          rw [HT.out, HE1.out, HE2.out, HE3.out]
          simp only [List.append_assoc])
        have HST := Lib.hid (string_any w.heap.size b ([3] ++ encN (nullsL l) ++ (Tx.strB (nm z.min.s)) ++ (Tx.strB (nm z.max.s)) ++ Tx.bestT ((someL l).map fun c => nm c.s)) w14 hbd14 (by simp) (by rw [HEN.out]; exact enc_isB HCOL.out))
        clear hbd14 hw14 HW3 T13 BD13
        dsimp only
        go_wp2_with fail
        refine HST.out.mono ?_
        rintro e w15 ⟨rfl, hb15⟩
        have HF : Hid (PutX w 3 l (.returned (.tuple #[.string (strOfNums ([3] ++ encN (nullsL l) ++ (Tx.strB (nm z.min.s)) ++ (Tx.strB (nm z.max.s)) ++ Tx.bestT ((someL l).map fun c => nm c.s))), .int .i64 0])) w15) := Lib.hid ⟨by rw [HR.out, HEN.out], (turn_base T14.out hb15).grown⟩
        clear hb15 HST
        dsimp only
        go_wp2
        go_ret2
        exact HF.out
  · have q0 : (E != 0) = true := bne_iff_ne.2 h0
    have HR : Hid (putS kind l = (E, [])) := Lib.hid (by unfold putS; rw [← hE, if_pos h0])
    clear h0 hE
    go_enter Tryz.func11, Tryz.ntmps11
    go_wp2_with fail
    refine HCK.out.mono ?_
    rintro e w1 ⟨rfl, hg⟩
    have HF : Hid (PutX w kind l (.returned (.tuple #[.string ⟨#[]⟩, .int .i64 E])) w1) := Lib.hid ⟨by rw [HR.out]; rfl, hg⟩
    clear hg
    dsimp only
    go_wp2
    go_ret2
    exact HF.out
end Go.Proofs.YtljanfnhmhimiaaGreat.Sg

namespace Go.Proofs.YtljanfnhmhimiaaGreat.Sg
open Go.RowKit Go.Joins Zn Zr Dv
open Oct (Rd)

open Nu (cnt)

theorem Put_c : PutC := fun kind a n c l w hs hi _ _ => (Put_any kind a n c l w hs hi).mono fun _ _ h => h
theorem Check_c : CheckC := fun kind a n c l w hs _ _ _ => Check_any kind a n c l w hs

end Go.Proofs.YtljanfnhmhimiaaGreat.Sg
