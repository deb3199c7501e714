/-
  The program's Put.
-/
import Derived.Test.YtfojkglindpjjaaDoorSuData
namespace Go.Proofs.YtfojkglindpjjaaDoor.Su
open Go.RowKit Bs Dv Gr
open Oct (putB)
open Ref1 (GrowB)
open Fr (putF FmOk strE)

theorem fours_take (l : List Int) (k : Nat) (h : k < l.length) : fours (l.take (k + 1)) = fours (l.take k) ++ putB 4 (l.getD k 0) := by
  rw [(take_drop l k h).1, fours_app]
  show _ ++ (putB 4 _ ++ []) = _
  rw [List.append_nil]

set_option maxRecDepth 100000 in
set_option maxHeartbeats 2000000 in
theorem data_any (s : Sup) (a : Option Addr) (n c : Nat) (w : World) (hs : Ws.Seg w a n c s.pages) (ho : SupOk s) (h1 : 0 ≤ s.size ∧ s.size < 4294967296) (h2 : 0 ≤ s.blocks ∧ s.blocks < 4294967296) (h4 : n ≤ 100000) (hT : T4 w) :
    Calls Tryd.prog 36 #[.agg #[.int .u64 s.gen, .int .i64 s.size, .int .i64 s.blocks, .int .u32 s.root, .slice a n c]] w fun e w' => e = .returned (.string (strOfNums (dataS s))) ∧ w.grownBy w' none := by
  obtain ⟨i0, hi, hz0, hz1, hz2⟩ := info_parts info_u8
  have HB0 := Lib.hid (SB.new w s a n c)
  have HG0 := Lib.hid (grown_alloc w (.cells #[.int .u64 s.gen, .int .i64 s.size, .int .i64 s.blocks, .int .u32 s.root, .slice a n c] 29))
  obtain ⟨W0, hW0⟩ : ∃ X, w.alloc (.cells #[.int .u64 s.gen, .int .i64 s.size, .int .i64 s.blocks, .int .u32 s.root, .slice a n c] 29) = X := ⟨_, rfl⟩
  rw [hW0] at HB0 HG0
  have HH := Lib.hid (headOf_any s a n c W0)
  have HPT := Lib.hid (fun W (k : w.grownBy W none) => headPut_any s.gen s.size s.blocks s.root n W h1 h2 ho.root (by omega) (hT.grown k))
  have HW : Hid (Ws.IsW s.pages) := Lib.hid (fun x hx => by have := ho.pages x hx; omega)
  have HD : Hid (dataS s = headB [s.size, s.blocks, s.root, (n : Int)] 4 ++ fours s.pages) := Lib.hid (by rw [← head_data, hs.len])
  have HHL : Hid ((headB [s.size, s.blocks, s.root, (n : Int)] 4).length = 14) := Lib.hid (head_len _ 4)
  have HL := Lib.hid hs.len
  have hle := hs.le
  have hcap := hs.cap
  unfold maxLen at hcap
  have HS := Lib.hid hs
  obtain ⟨H, hH⟩ : ∃ H, headB [s.size, s.blocks, s.root, (n : Int)] 4 = H := ⟨_, rfl⟩
  rw [hH] at HD HPT HHL
  have HIB := Lib.hid (data_isB s)
  clear hH hs ho h1 h2 hT
  obtain ⟨q0, q1, q2, q3, q4⟩ := HB0.out.cells
  go_enter Tryd.func36, Tryd.ntmps36
  go_wp2_with fail
  refine HH.out.mono ?_
  rintro e w1 ⟨rfl, hg⟩
  have HG1 := Lib.hid (grown_then HG0.out hg)
  have HB1 := Lib.hid (HB0.out.old hg)
  clear hg q0 q1 q2 q3 q4 HH HB0
  dsimp only
  go_wp2_with fail
  refine (HPT.out w1 HG1.out).mono ?_
  rintro e w2 ⟨g, cc, rfl, hown, hbel⟩
  have HG2 := Lib.hid (grown_then HG1.out (below_grown hbel))
  have HB2 := Lib.hid (HB1.out.old (below_grown hbel))
  have hsz0 : w.heap.size ≤ w1.heap.size := HG1.out.size
  have HO2 : Hid (w2.ownsRow w.heap.size 5 1 (.slice (some ⟨g, 0, none⟩) 14 cc) 14 (H.map (Value.int .u8))) := Lib.hid (ownsRow_mono hown hsz0)
  have HL2 := Lib.hid (below_from HG2.out (Nat.le_refl w.heap.size))
  obtain ⟨-, -, -, -, b4⟩ := HB2.out.cells
  clear hown hbel HB1 HPT HG1
  dsimp only
  go_wp2
  clear b4 HB2
  go_loopw [3, 12] (fun so si wr => ∃ (k : Nat) (V : Value), k ≤ n ∧ si = .int .i64 k ∧ V = so ∧ Hid (wr.ownsRow w.heap.size 5 1 V (14 + 4 * k) ((H ++ fours (s.pages.take k)).map (Value.int .u8))) ∧ Hid (Below w.heap.size w wr)) (fun _ si _ => n - (intOf si).toNat)
  case atStart => exact ⟨0, _, Nat.zero_le _, rfl, rfl, by rw [List.take_zero]; show Hid (w2.ownsRow _ _ _ _ _ ((H ++ []).map _)); rw [List.append_nil]; exact HO2, HL2⟩
  case round =>
    clear HO2 HL2 hsz0
    obtain ⟨k, V, hk, rfl, rfl, HO, HB1⟩ := hrel
    by_cases hlt : k < n
    · obtain ⟨ga, oa, rfl, hc⟩ := (HS.out.grown (below_grown HB1.out)).addr (by omega)
      have hck := hc k hlt
      have hp := bd HW.out k
      have HF4 := Lib.hid (fours_take s.pages k (by rw [HL.out]; exact hlt))
      obtain ⟨x, hx⟩ : ∃ x, s.pages.getD k 0 = x := ⟨_, rfl⟩
      rw [hx] at hck hp HF4
      have e1 := u64i hp
      have HP := Lib.hid (Oct.put_yes none 0 0 [] x 4 wr (Seg.nil wr) hp.1 (by omega) (by decide) (by decide) (by decide))
      clear hc hx
      go_wp2_with fail
      refine HP.out.mono ?_
      rintro e w3 hnew
      rw [List.nil_append] at hnew
      obtain ⟨g3, q1, rfl, hf⟩ := hnew.value
      obtain ⟨hq1, hown1, hg⟩ := hf.is
      rw [Oct.putB_length] at hq1
      subst hq1
      have HSG := Lib.hid ((Seg.own hown1).at_ _ rfl)
      have HO1 := Lib.hid (own_grown HO.out hg)
      have HB2 := Lib.hid (HB1.out.trans (below_from hg HB1.out.size))
      have hsz1 : w.heap.size ≤ w3.heap.size := HB2.out.size
      have HLL : Hid (((putB 4 x).map (Value.int .u8)).length = 4 * 1) := Lib.hid (by rw [List.length_map, Oct.putB_length])
      clear hnew hf hown1 hg HO HB1 HP hck
      dsimp only
      go_wp2_with (first
        | (at_builtin; refine wpList_append_own _ rfl (.tmp 16) (.tmp 19) 48 rfl w.heap.size 5 i0 (.int .u8 0) 1 1 Tryd.underlying48 hi hz0 hz1 hz2 rfl (by decide) V (14 + 4 * k) ((H ++ fours (s.pages.take k)).map (Value.int .u8)) rfl HO1.out ⟨g3, 0, none⟩ 4 4 ((putB 4 x).map (Value.int .u8)) rfl HLL.out HSG.out (ints_oneCell _ _) (by unfold maxLen; omega) (by omega) hsz1 ?_; intro v' w4 hown2 hgrow2 _)
        | fail)
      have HO2 : Hid (w4.ownsRow w.heap.size 5 1 v' (14 + 4 * (k + 1)) ((H ++ fours (s.pages.take (k + 1))).map (Value.int .u8))) := Lib.hid (by rw [HF4.out, ← List.append_assoc, List.map_append]; exact hown2)
      have HB3 := Lib.hid (HB2.out.grown hgrow2 hsz1 (fun i e => (HO1.out.lt i e).1))
      clear hown2 hgrow2 HO1 HB2
      go_roundw
      case rel => exact ⟨k + 1, _, by omega, by go_num, rfl, HO2, HB3⟩
      case measure => simp [intOf]; omega
    · obtain rfl : k = n := by omega
      obtain ⟨g', c', rfl⟩ := own_shape HO.out (by omega)
      have hd : H ++ fours (s.pages.take k) = dataS s := by rw [HD.out, List.take_of_length_le (by rw [HL.out]; exact Nat.le_refl _)]
      have hown := HO.out
      rw [hd] at hown
      have hcv := conv_any g' 0 (14 + 4 * k) c' (dataS s) wr (Reg.own hown) (by rw [data_len, HL.out])
      clear HO hown hd
      go_wp2
      go_ret
      exact ⟨rfl, below_grown HB1.out⟩

set_option maxRecDepth 100000 in
set_option maxHeartbeats 2000000 in
theorem put_sup (s : Sup) (a : Option Addr) (n c : Nat) (w : World) (hs : Ws.Seg w a n c s.pages) (ho : SupOk s) (hT : T4 w) :
    Calls Tryd.prog 19 #[.agg #[.int .u64 s.gen, .int .i64 s.size, .int .i64 s.blocks, .int .u32 s.root, .slice a n c]] w fun e w' => e = strE (putS s) ∧ w.grownBy w' none := by
  have HB0 := Lib.hid (SB.new w s a n c)
  have HG0 := Lib.hid (grown_alloc w (.cells #[.int .u64 s.gen, .int .i64 s.size, .int .i64 s.blocks, .int .u32 s.root, .slice a n c] 29))
  obtain ⟨W0, hW0⟩ : ∃ X, w.alloc (.cells #[.int .u64 s.gen, .int .i64 s.size, .int .i64 s.blocks, .int .u32 s.root, .slice a n c] 29) = X := ⟨_, rfl⟩
  rw [hW0] at HB0 HG0
  have HC := Lib.hid (check_sup s a n c W0 (hs.grown HG0.out) ho)
  obtain ⟨q0, q1, q2, q3, q4⟩ := HB0.out.cells
  obtain ⟨E, hE⟩ : ∃ E, supE s = E := ⟨_, rfl⟩
  rw [hE] at HC
  by_cases h0 : E = 0
  · have e0 : (E != 0) = false := by rw [h0]; rfl
    have hv := (sup_ok (hE.trans h0)).1
    have hg := hv.1
    unfold GeoOk at hg
    have hn : n ≤ 74 := by
      have h1 := hv.2.2.2.1
      have h2 := pages_bounds hv.1
      rw [hs.len] at h1
      omega
    have HPS : Hid (putS s = putF s.size (1, s.gen, dataS s)) := Lib.hid (if_neg (fun h => h (hE.trans h0)))
    have HDQ := Lib.hid (fun W (k : w.grownBy W none) => data_any s a n c W (hs.grown k) ho (by omega) (by omega) (by omega) (hT.grown k))
    have hfm : FmOk (1, s.gen, dataS s) := ⟨⟨(by show (0 : Int) ≤ 1; decide), (by show (1 : Int) < 256; decide)⟩, ho.gen, data_isB s⟩
    obtain ⟨⟨PB, PE⟩, hp⟩ : ∃ r, putF s.size (1, s.gen, dataS s) = r := ⟨_, rfl⟩
    have HPQ : Hid (∀ W, Calls Tryd.prog 35 #[.int .i64 s.size, .agg #[.int .u8 1, .int .u64 s.gen, .string (strOfNums (dataS s))]] W fun e w' => e = .returned (.tuple #[.string (strOfNums PB), .int .i64 PE]) ∧ W.grownBy w' none) := Lib.hid (fun W => (Fr.put_any s.size (1, s.gen, dataS s) W hfm).mono fun e w' ⟨h1, h2⟩ => ⟨by rw [h1, hp]; rfl, h2⟩)
    rw [hp] at HPS
    obtain ⟨S, hS⟩ : ∃ S, strOfNums (dataS s) = S := ⟨_, rfl⟩
    rw [hS] at HDQ HPQ
    clear hs ho hT hE hv hg hn hfm hp hS
    subst h0
    go_enter Tryd.func19, Tryd.ntmps19
    go_wp2_with fail
    refine HC.out.mono ?_
    rintro e w1 ⟨rfl, hg⟩
    have HG1 := Lib.hid (grown_then HG0.out hg)
    have HD1 : Hid (∀ q : Gw w1, Calls Tryd.prog 36 #[.agg #[.int .u64 s.gen, .int .i64 s.size, .int .i64 s.blocks, .int .u32 s.root, .slice a n c]] q.at_ fun e w' => e = .returned (.string S) ∧ q.at_.grownBy w' none) := Lib.hid (fun q => HDQ.out _ (grown_then HG1.out q.grown))
    obtain ⟨c0, c1, c2, c3, c4⟩ := (HB0.out.old hg).gw
    clear hg q0 q1 q2 q3 q4 HC
    dsimp only
    go_upto_region 4 with (fail)
    refine wp_region_grow (by kernel_rfl) ?_
    repeat (go_big_quiet_step (first | (go_at_call 36; with_reducible exact Calls.grow_of (HD1.out _)) | (go_at_call 35; with_reducible exact Calls.grow_of (HPQ.out _)) | fail))
    refine wpQuiet_nil ?_
    rintro _ ⟨p, rfl⟩
    have HGF := Lib.hid (grown_then HG1.out p.grown)
    clear c0 c1 c2 c3 c4
    go_wp2
    go_ret2
    exact ⟨by rw [HPS.out]; rfl, HGF.out⟩
  · have e0 : (E != 0) = true := bne_iff_ne.2 h0
    have HPS : Hid (putS s = ([], E)) := Lib.hid (by rw [put_no (by rw [hE]; exact h0), hE])
    clear hs ho hT hE h0
    go_enter Tryd.func19, Tryd.ntmps19
    go_wp2_with fail
    refine HC.out.mono ?_
    rintro e w1 ⟨rfl, hg⟩
    have HG1 := Lib.hid (grown_then HG0.out hg)
    clear hg q0 q1 q2 q3 q4 HC
    dsimp only
    go_wp2
    go_ret2
    exact ⟨by rw [HPS.out]; rfl, HG1.out⟩
end Go.Proofs.YtfojkglindpjjaaDoor.Su
