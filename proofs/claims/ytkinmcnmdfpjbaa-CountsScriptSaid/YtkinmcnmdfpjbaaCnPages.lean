/-
  The program's perPage and Pages.
-/
import Derived.Test.YtkinmcnmdfpjbaaCnPagesR
namespace Go.Proofs.Ytkinmcnmdfpjbaa.Cn
open Go.RowKit Go.Shelf Bs Dv Gr Dr
open Su (GeoOk pagesF)
open Cf (Kept wpIn_feedsl region_round_inv_at keeps_turn)

attribute [local go_sem] Oper.semAt_some

theorem perPage_any (size blocks : Int) (w : World) (h : GeoOk size blocks) :
    Calls Try.prog 43 #[.agg #[.int .i64 size, .int .i64 blocks]] w fun e w' => e = .returned (.int .i64 (eachC size : Int)) ∧ w.grownBy w' none := by
  have HG0 := Lib.hid (grown_alloc w (.cells #[.int .i64 size, .int .i64 blocks] 28))
  have HR := Lib.hid (fun W => Fr.room_any size W)
  obtain ⟨h1, h2⟩ := each_pos h
  obtain ⟨r, hr⟩ : ∃ r, Fr.room size = r := ⟨_, rfl⟩
  rw [hr] at HR h2
  have hd : r.tdiv 2 = (eachC size : Int) := by rw [Int.tdiv_eq_ediv_of_nonneg (by omega)]; omega
  have hb := (each_pos h).2
  have hle : (eachC size : Int) ≤ 4096 := by
    have := Su.geo_room h
    unfold GeoOk at h
    omega
  obtain ⟨q, hq⟩ : ∃ q, eachC size = q := ⟨_, rfl⟩
  rw [hq] at hd hle ⊢
  clear h h1 h2 hr hb hq
  have e1 : IntKind.i64.wrap (q : Int) = (q : Int) := IntWalk.i64_in _ (by omega)
  go_enter Try.func43, Try.ntmps43
  go_wp2_with fail
  refine (HR.out _).mono ?_
  rintro e w2 ⟨rfl, hg⟩
  have HG2 := Lib.hid (grown_then HG0.out hg)
  clear hg
  dsimp only
  go_wp2
  go_ret
  exact ⟨rfl, HG2.out⟩
def roomS (S : Nat) : Array Value := madeCells (Value.string ⟨#[]⟩).cells S
theorem make_roomS (S : Nat) (hS : S ≤ 100000) (W : World) : (Instr.makeSlice 37 (.int .i64 0) (.int .i64 (S : Int))).run Try.prog W = .ok (.slice (some ⟨W.heap.size, 0, none⟩) 0 S) (W.alloc (.cells (roomS S) 9)) := by
  obtain ⟨i0, hi, hz0, hz1, hz2⟩ := info_parts Ss.info_str
  have h := run_make (P := Try.prog) W 37 9 i0 (.string ⟨#[]⟩) Try.underlying37 hi hz0 .i64 .i64 0 (S : Int) (by omega) (by omega) (by rw [hz2]; omega) (by omega)
  rw [hz1, Int.toNat_natCast, Nat.mul_one] at h
  exact h
theorem made_ownS (W : World) (S : Nat) (hS : S ≤ 100000) : (W.alloc (.cells (roomS S) 9)).ownsRow W.heap.size 9 1 (.slice (some ⟨W.heap.size, 0, none⟩) 0 S) 0 [] :=
  World.ownsRow_made (base := W.heap.size) (e := 9) (size := 1) W (roomS S) S (Nat.le_refl _) (by unfold maxLen; omega) (by unfold roomS; rw [size_madeCells, Nat.mul_one])
theorem pages_pieces {size : Int} {n : Nat} (h : GeoOk size n) (N : List Int) (hl : N.length = n) : (pagesL (eachC size) n N).length = piecesC n (eachC size) ∧ pagesF size n = (piecesC n (eachC size) : Int) := by
  have he := (each_pos h).1
  have h1 := pages_count (eachC size) (by omega) n N (by omega)
  rw [hl] at h1
  exact ⟨h1, by rw [← pages_geo h N hl, h1]; rfl⟩
theorem pieces_le {n each : Nat} (he : 56 ≤ each) (hn : n ≤ 4096) : piecesC n each ≤ 74 := by
  unfold piecesC
  exact Nat.le_of_lt_succ (Nat.div_lt_of_lt_mul (by omega))

theorem piece_seg {w : World} {g h cap : Nat} {size : Int} {n : Nat} {N : List Int} (hc : CC w g h cap size N) (hln : N.length = n) (each k : Nat) (hk : k * each < n) : Hs.Seg w (some ⟨h, k * each, none⟩) (pieceL n each k) (pieceL n each k) ((N.drop (k * each)).take each) := by
  have hs := hc.small
  have h1 := hc.seg.drop (k := k * each) (by omega)
  rw [Nat.zero_add] at h1
  have hl : ((N.drop (k * each)).take each).length = pieceL n each k := by unfold pieceL; rw [List.length_take, List.length_drop, hln]
  refine ⟨hl, Nat.le_refl _, by unfold maxLen pieceL; omega, (fun e => by cases e), fun ad had j u hu => h1.at_ ad had j u ?_⟩
  have hj := (List.getElem?_eq_some_iff.1 hu).1
  rw [List.length_map, List.length_take] at hj
  rw [List.getElem?_map, List.getElem?_take_of_lt (by omega)] at hu
  rw [List.getElem?_map]
  exact hu
theorem own_from {w W W' : World} {row : Option Nat} (h : w.grownBy W none) (hg : W.grownBy W' row) (hr : ∀ r, row = some r → w.heap.size ≤ r) : w.grownBy W' none :=
  ⟨hg.os.trans h.os, hg.tape.trans h.tape, hg.output.trans h.output, Nat.le_trans h.size hg.size, fun i hi _ => (hg.block i (Nat.lt_of_lt_of_le hi h.size) (fun e => by have := hr i e.symm; omega)).trans (h.block i hi (by simp))⟩
theorem pages_nil (w : World) : Calls Try.prog 16 #[.pointer none] w fun e w' => e = .returned (.slice none 0 0) ∧ w = w' := by
  have HV := Lib.hid (valid_nil w)
  refine (callsIn_wide (n := 3)).1 ?_
  refine callsIn_of_wp_marks Try.func16 rfl trivial ?_ rfl
  simp only [Try.ntmps16, List.size_toArray, List.length_cons, List.length_nil, Nat.reduceAdd, Nat.reduceSub, Array.replicate_succ, Array.replicate_zero, List.push_toArray, List.append_toArray, List.nil_append, List.cons_append]
  refine wpIn_wide.2 ?_
  go_wp2_with (first | (go_at_call 38; refine HV.out.mono ?_; rintro e w' ⟨rfl, rfl⟩) | fail)
  exact ⟨_, results_tmp rfl _ _ _, rfl, rfl⟩

/-- What Pages hands back. -/
def PagesX (w : World) (l : List (List Int)) (e : Ending) (w' : World) : Prop :=
  w.grownBy w' none ∧ ∃ a c, e = .returned (.slice (some ⟨a, 0, none⟩) l.length c) ∧ Ss.Seg w' (some ⟨a, 0, none⟩) l.length c l ∧ w.heap.size ≤ a

set_option maxRecDepth 100000 in
set_option maxHeartbeats 4000000 in
theorem pages_any (g h cap : Nat) (size : Int) (n : Nat) (N : List Int) (w : World) (hc : CC w g h cap size N) (ho : CnOk size n N) :
    Calls Try.prog 16 #[.pointer (some ⟨g, 0, none⟩)] w (PagesX w (pagesL (eachC size) n N)) := by
  have hln := ho.len
  have hgeo := ho.geo
  have HV := Lib.hid (valid_yes g w hc.cells.2.2.2)
  obtain ⟨hpl, hpf⟩ := pages_pieces hgeo N hln
  have he := (each_pos hgeo).1
  have hn : 8 ≤ n ∧ n ≤ 4096 := by unfold GeoOk at hgeo; omega
  have hp74 := pieces_le he hn.2
  have HPG := Lib.hid (fun W => Su.pages_any size n W)
  rw [hpf] at HPG
  have HPP := Lib.hid (fun W => perPage_any size n W hgeo)
  have he2 : eachC size ≤ 4096 := by
    have h1 := (each_pos hgeo).2
    have h2 := Su.geo_room hgeo
    have h3 := hgeo.2.1
    omega
  obtain ⟨each, hea⟩ : ∃ each, eachC size = each := ⟨_, rfl⟩
  rw [hea] at hpl HPG HPP he hp74 he2 ⊢
  have HCH := Lib.hid (fun a c W => chunk_any a n c each W (by omega))
  obtain ⟨p, hp⟩ : ∃ p, piecesC n each = p := ⟨_, rfl⟩
  rw [hp] at hpl HPG hp74
  have hmk := make_roomS p (by omega)
  have HMO := Lib.hid (fun W => made_ownS W p (by omega))
  have HC := Lib.hid hc
  have hc0 := hc.cells.1
  have hc1 := hc.cells.2.1
  rw [hln] at hc1
  have HPL := Lib.hid hpl
  have HPE := Lib.hid hp
  have HLN := Lib.hid hln
  have HOK := Lib.hid ho
  have HEA := Lib.hid hea
  clear hc ho hpl hpf hp hea hgeo hln
  refine (callsIn_wide (n := 3)).1 ?_
  refine callsIn_of_wp_marks Try.func16 rfl trivial ?_ rfl
  simp only [Try.ntmps16, List.size_toArray, List.length_cons, List.length_nil, Nat.reduceAdd, Nat.reduceSub, Array.replicate_succ, Array.replicate_zero, List.push_toArray, List.append_toArray, List.nil_append, List.cons_append]
  refine wpIn_wide.2 ?_
  go_wp2_with (first | (go_at_call 38; refine HV.out.mono ?_; rintro e w' ⟨rfl, rfl⟩) | fail)
  refine (HPG.out _).mono ?_
  rintro e w2 ⟨rfl, hg2⟩
  have HG2 := Lib.hid hg2
  clear hg2
  dsimp only
  go_wp2
  have HO3 : Hid (((w2.alloc (.cells (roomS p) 9)).alloc (.cells #[.slice (some ⟨w2.heap.size, 0, none⟩) 0 p] 37)).ownsRow w2.heap.size 9 1 (.slice (some ⟨w2.heap.size, 0, none⟩) 0 p) 0 []) := Lib.hid ((HMO.out w2).alloc _)
  have HB3 : Hid (Boxed ((w2.alloc (.cells (roomS p) 9)).alloc (.cells #[.slice (some ⟨w2.heap.size, 0, none⟩) 0 p] 37)) (w2.heap.size + 1) 37 (.slice (some ⟨w2.heap.size, 0, none⟩) 0 p)) := Lib.hid (by
    have := Boxed.new (w2.alloc (.cells (roomS p) 9)) 37 (.slice (some ⟨w2.heap.size, 0, none⟩) 0 p)
    rwa [World.size_alloc] at this)
  have HG3 : Hid (w.grownBy ((w2.alloc (.cells (roomS p) 9)).alloc (.cells #[.slice (some ⟨w2.heap.size, 0, none⟩) 0 p] 37)) none) := Lib.hid (grown_then (grown_then HG2.out (grown_alloc _ _)) (grown_alloc _ _))
  have hz3 : ((w2.alloc (.cells (roomS p) 9)).alloc (.cells #[.slice (some ⟨w2.heap.size, 0, none⟩) 0 p] 37)).heap.size = w2.heap.size + 2 := by simp [World.size_alloc]
  obtain ⟨W3, hW3⟩ : ∃ X, (w2.alloc (.cells (roomS p) 9)).alloc (.cells #[.slice (some ⟨w2.heap.size, 0, none⟩) 0 p] 37) = X := ⟨_, rfl⟩
  rw [hW3] at HO3 HB3 HG3 hz3 ⊢
  have HZ3 := Lib.hid hz3
  have b0 := (grown_turn HG3.out).cell hc0 id
  have b1 := (grown_turn HG3.out).cell hc1 id
  have b2 := (HC.out.old HG3.out).cells.2.2.1
  rw [HLN.out] at b2
  clear hW3 hmk HMO hc0 hc1 hz3
  have HD3 := Lib.hid (grown_drew W3)
  go_region_held3 (fun w' => w'.cell? ⟨g, 0, none⟩ = some (.int .i64 size) ∧ w'.cell? ⟨g, 1, none⟩ = some (.int .i64 (n : Int)) ∧ w'.cell? ⟨g, 2, none⟩ = some (.slice (some ⟨h, 0, none⟩) n cap)) (go_keep)
    (first
      | (go_at_call 43
         (with_reducible refine (HPP.out _).mono ?_)
         rintro e w4 ⟨rfl, hg4⟩
         have HG4 := Lib.hid (grown_then HD3.out hg4)
         have k0 := (grown_turn HG4.out).cell b0 id
         have k1 := (grown_turn HG4.out).cell b1 id
         have k2 := (grown_turn HG4.out).cell b2 id
         clear hg4)
      | (go_at_call 42
         (with_reducible refine (HCH.out _ _ _).mono ?_)
         rintro e w5 ⟨rfl, hw5⟩
         have HG5 : Hid (W3.grownBy w5 none) := Lib.hid (by rw [hw5]; exact grown_then HG4.out (grown_then (grown_alloc _ _) (grown_alloc _ _)))
         have HW5 := Lib.hid hw5
         have k0 := (grown_turn HG5.out).cell b0 id
         have k1 := (grown_turn HG5.out).cell b1 id
         have k2 := (grown_turn HG5.out).cell b2 id
         clear hw5)
      | fail)
  go_wp2
  refine (wpIn_wide (n := 3)).1 ?_
  have HSZ : Hid (w2.heap.size + 2 ≤ w4.heap.size ∧ w5.heap.size = w4.heap.size + 2 ∧ w.heap.size ≤ w2.heap.size) := Lib.hid (by
    refine ⟨?_, ?_, HG2.out.size⟩
    · have := HG4.out.size; have := HZ3.out; omega
    · rw [HW5.out]; simp [World.size_alloc])
  have HA5 : Hid (w5.cell? ⟨w4.heap.size, 0, none⟩ = some (.slice (some ⟨h, 0, none⟩) n cap) ∧ w5.cell? ⟨w4.heap.size + 1, 0, none⟩ = some (.int .i64 each)) := Lib.hid (by
    have q1 := Boxed.new w4 69 (.slice (some ⟨h, 0, none⟩) n cap)
    have q2 := Boxed.new (w4.alloc (.cells #[.slice (some ⟨h, 0, none⟩) n cap] 69)) 3 (.int .i64 each)
    rw [World.size_alloc] at q2
    rw [HW5.out]
    exact ⟨(q1.alloc _).cell, q2.cell⟩)
  have HC5 := Lib.hid (HC.out.old (grown_then HG3.out HG5.out))
  have HO5 : Hid (w5.ownsRow w2.heap.size 9 1 (.slice (some ⟨w2.heap.size, 0, none⟩) 0 p) 0 (((pagesL each n N).take 0).map Ss.encW)) := Lib.hid (HO3.out.kept HG5.out (.inr (fun e => by cases e)))
  have HB5 : Hid (Boxed w5 (w2.heap.size + 1) 37 (.slice (some ⟨w2.heap.size, 0, none⟩) 0 p)) := Lib.hid (HB3.out.kept HG5.out (fun e => by cases e))
  have HGW5 := Lib.hid (grown_then HG3.out HG5.out)
  have hgl : g < w5.heap.size := HC5.out.glt
  have hhl : h < w5.heap.size := HC5.out.lt
  have HGL := Lib.hid (⟨HC.out.glt, HC.out.lt⟩ : g < w.heap.size ∧ h < w.heap.size)
  have hncap : n ≤ cap := by have := HC.out.le; rw [HLN.out] at this; exact this
  clear b0 b1 b2 hgl hhl k0 k1 k2
  refine wpIn_feedsl rfl (by decide) (gf := 52) (first := #[]) (lb := #[.pointer (some ⟨w4.heap.size, 0, none⟩), .pointer (some ⟨w4.heap.size + 1, 0, none⟩)]) rfl trivial (enters_of Try.func52 (by kernel_rfl) rfl)
    (chunk_feeds 2 (by decide) (fun i => i = w4.heap.size ∨ i = w4.heap.size + 1) w4.heap.size (w4.heap.size + 1) h n cap each w5 HA5.out.1 HA5.out.2 (.inl rfl) (.inr rfl) (fun i hi => by have := HSZ.out; omega) hn.2 hncap ⟨by omega, he2⟩) (Below.refl _ _) (fun h k => Kept.t h k) (Kept.b (fun i hi => by have := HSZ.out; omega)) (fun _ => rfl)
    (fun k W => (Boxed W (w2.heap.size + 1) 37 (.slice (some ⟨w2.heap.size, 0, none⟩) k p) ∧ W.ownsRow w2.heap.size 9 1 (.slice (some ⟨w2.heap.size, 0, none⟩) k p) k (((pagesL each n N).take k).map Ss.encW)) ∧ CC W g h cap size N ∧ w.grownBy W none)
    (fun _ _ => False)
    (fun k W W' row ⟨⟨q1, q2⟩, q3, q4⟩ hg hr => by
      have hsz := HSZ.out
      have hgl := HGL.out
      have hne : ∀ i, i < w5.heap.size → some i ≠ row := fun i hi e => by have := (hr i e.symm).1; omega
      refine ⟨⟨q1.kept hg (hne _ (by omega)), q2.kept hg (.inr (hne w2.heap.size (by omega)))⟩, q3.turn (S := fun i => w5.heap.size ≤ i) (Turn.of_grown hg (fun i e _ => (hr i e).1)) (by show ¬ w5.heap.size ≤ g; omega) (by show ¬ w5.heap.size ≤ h; omega), own_from q4 hg (fun r e => by have := (hr r e).1; omega)⟩)
    (fun _ _ _ _ _ h _ _ => h.elim)
    ⟨⟨HB5.out, HO5.out⟩, HC5.out, HGW5.out⟩
    (fun k => { tmps := #[.pointer (some ⟨g, 0, none⟩), undef, .slice none 0 0, .pointer (some ⟨w2.heap.size + 1, 0, none⟩), .slice (some ⟨h, k * each, none⟩) (pieceL n each k) (pieceL n each k), .pointer (some ⟨g, 0, none⟩), .bool true, .bool false, .pointer (some ⟨g, 0, none⟩), .pointer (some ⟨g, 0, none⟩), .pointer (some ⟨g, 0, none⟩),
      .agg #[.int .i64 size, .int .i64 n], .int .i64 p, .slice (some ⟨w2.heap.size, 0, none⟩) 0 p, .pointer (some ⟨g, 0, none⟩), .pointer (some ⟨g, 0, none⟩), .pointer (some ⟨g, 2, none⟩), .slice (some ⟨h, 0, none⟩) n cap, .pointer (some ⟨g, 0, none⟩), .pointer (some ⟨g, 0, none⟩), .pointer (some ⟨g, 0, none⟩), .agg #[.int .i64 size, .int .i64 n], .int .i64 each,
      .func (.func 52) #[] #[.pointer (some ⟨w4.heap.size, 0, none⟩), .pointer (some ⟨w4.heap.size + 1, 0, none⟩)], .slice (some ⟨h, k * each, none⟩) (pieceL n each k) (pieceL n each k), undef, undef, undef, undef, undef, undef], defers := [] }) ?assign ?body ?done ?stop
  case assign =>
    intro l k W K hK
    unfold encP
    gi_wp2
    exact hK
  case stop => intro D c W _ h; exact h.elim
  case body =>
    rintro y k W hk ⟨⟨q1, q2⟩, q3, q4⟩
    have hkn : k * each < n := (pieces_lt n each k (by omega)).1 hk
    rw [HPE.out] at hk
    have hget := pages_get each (by omega) n k N (by rw [HLN.out]; exact Nat.le_refl _) (by rw [HLN.out]; exact hkn)
    have HTK : Hid ((pagesL each n N).take (k + 1) = (pagesL each n N).take k ++ [bytesC ((N.drop (k * each)).take each)]) := Lib.hid (by
      obtain ⟨h1, h2⟩ := List.getElem?_eq_some_iff.1 hget
      rw [List.take_succ_eq_append_getElem h1, h2])
    have HSG := Lib.hid (piece_seg q3 HLN.out each k hkn)
    have HIC : Hid (IsC ((N.drop (k * each)).take each)) := Lib.hid (fun x hx => HOK.out.cnt x (List.mem_of_mem_drop (List.mem_of_mem_take hx)))
    have hpn : pieceL n each k ≤ 4096 := by unfold pieceL; omega
    obtain ⟨pc, hpc⟩ : ∃ pc, (N.drop (k * each)).take each = pc := ⟨_, rfl⟩
    rw [hpc] at HTK HSG HIC
    obtain ⟨o, hoo⟩ : ∃ o, k * each = o := ⟨_, rfl⟩
    obtain ⟨q, hqq⟩ : ∃ q, pieceL n each k = q := ⟨_, rfl⟩
    rw [hoo, hqq] at HSG
    rw [hqq] at hpn
    rw [hoo, hqq]
    obtain ⟨S, hS⟩ : ∃ S, strOfNums (bytesC pc) = S := ⟨_, rfl⟩
    have HS := Lib.hid hS
    have HPT := Lib.hid (fun W' (t : Turn W W' (fun i => i = w2.heap.size ∨ i = w2.heap.size + 1)) (hh : ¬ (h = w2.heap.size ∨ h = w2.heap.size + 1)) => put_any ⟨h, o, none⟩ q q pc W' (by
      have hs := HSG.out
      refine ⟨hs.len, hs.le, hs.cap, hs.nil_, fun ad had j u hu => t.cell (hs.at_ ad had j u hu) (by cases had; rw [block_add]; exact hh)⟩) HIC.out hpn)
    rw [hS] at HPT
    have hhne : ¬ (h = w2.heap.size ∨ h = w2.heap.size + 1) := by have := HGL.out; have := HSZ.out; omega
    obtain ⟨i0, hi, hz0, hz1, hz2⟩ := info_parts Ss.info_str
    clear hget hpc hoo hqq hS hkn hpn
    refine wpIn_block ?_
    refine region_round_inv_at (I := PI W w2.heap.size (w2.heap.size + 1) w2.heap.size p k (((pagesL each n N).take k).map Ss.encW) S (.slice (some ⟨h, o, none⟩) q q)) (by kernel_rfl) (by kernel_rfl) (by rintro ⟨_, _, h⟩; exact h) (by kernel_rfl) ?start ?steps ?fin
    case start =>
      exact ⟨Agr.refl _ _, by simp, (fun e => by cases e), (fun e => by cases e), (fun e => by cases e), (fun e => by cases e), (fun e => by cases e), Turn.drew W _, fun _ => q2, (fun e => by cases e), fun _ => q1, (fun e => by cases e), (fun e => by cases e), (fun e => by cases e), (fun e => by cases e), (fun e => by cases e)⟩
    case steps =>
      show ∀ i, i < 6 → _
      refine all_snoc (all_snoc (all_snoc (all_snoc (all_snoc (all_snoc Dr.all_nil ?r0) ?r1) ?r2) ?r3) ?r4) ?r5
      case r0 =>
        refine StepAt.mk rfl (ns := []) (by kernel_rfl) rfl ?_
        intro L X V h0 hn hI
        have n4 : L 4 = false := by
          cases e : L 4 with
          | false => rfl
          | true => rw [hI.o40 e] at h0; cases h0
        have c4 := (hI.box (hI.no5 n4)).cell
        have e3 : X.tmps[3]?.getD undef = .pointer (some ⟨w2.heap.size + 1, 0, none⟩) := by rw [hI.agr.same 3 (by decide)]; rfl
        refine wp_yield (v := .slice (some ⟨w2.heap.size, 0, none⟩) k p) ?_ hI.val0
        simp [go_sem, e3, c4]
      case r1 =>
        refine StepAt.mk rfl (ns := []) (by kernel_rfl) rfl ?_
        intro L X V h0 hn hI
        have e4 : X.tmps[4]?.getD undef = .slice (some ⟨h, o, none⟩) q q := by rw [hI.agr.same 4 (by decide)]; rfl
        refine wp_yield (v := .slice (some ⟨h, o, none⟩) q q) ?_ hI.val1
        simp [go_sem, e4]
      case r2 =>
        refine StepAt.mk rfl (ns := [1]) (by kernel_rfl) rfl ?_
        intro L X V h0 hn hI
        have e26 : X.tmps[26]?.getD undef = .slice (some ⟨h, o, none⟩) q q := by have := hI.v1 (hn 1 (by decide)); unfold At at this; rw [Array.getD_eq_getD_getElem?] at this; exact this
        have n3 : L 3 = false := by
          cases e : L 3 with
          | false => rfl
          | true => rw [hI.o32 e] at h0; cases h0
        refine wp_func (v := .string S) (R := fun w2 => V.grownBy w2 none) (f := 44) (vs := #[.slice (some ⟨h, o, none⟩) q q]) ?_ (HPT.out V hI.turn hhne) (fun w2 hg => hI.val2 n3 hg)
        simp [go_sem, e26]
      case r3 =>
        refine StepAt.mk rfl (ns := [2]) (by kernel_rfl) rfl ?_
        intro L X V h0 hn hI
        have e27 : X.tmps[27]?.getD undef = .string S := by have := hI.v2 (hn 2 (by decide)); unfold At at this; rw [Array.getD_eq_getD_getElem?] at this; exact this
        refine wp_made (v := .slice (some ⟨V.heap.size, 0, none⟩) 1 1) (w' := V.alloc (.cells #[.string S] 9)) ?_ (hI.val3 (hn 2 (by decide)) h0)
        simp [go_sem, e27]
      case r4 =>
        refine StepAt.mk rfl (ns := [0, 3, 2]) (by kernel_rfl) rfl ?_
        intro L X V h0 hn hI
        obtain ⟨B, q5, q6⟩ := hI.v3 (hn 3 (by decide))
        have e25 := hI.v0 (hn 0 (by decide))
        obtain ⟨V', hrun, ho', hg'⟩ := run_append_one (P := Try.prog) V 37 37 9 i0 Try.underlying37 hi hz1 w2.heap.size w2.heap.size k p _ _ (hI.row h0) (by omega) B 1 (q6 h0) (by simp [Value.oneCell'])
        exact wp_append_in (.tmp 25) (.tmp 28) 37 rfl _ _ _ e25 q5 V' hrun (hI.val4 h0 (hn 0 (by decide)) (hn 3 (by decide)) (by omega) ho' hg')
      case r5 =>
        refine StepAt.mk rfl (ns := [4, 4, 0, 1, 2, 3, 4]) (by kernel_rfl) rfl ?_
        intro L X V h0 hn hI
        exact wp_store_box rfl (.tmp 3) (.tmp 29) rfl (w2.heap.size + 1) ((hI.agr.at_ (d := 3) (by decide)).trans rfl) (some ⟨w2.heap.size, 0, none⟩) (k + 1) p (hI.v4 (hn 4 (by decide))) _ (hI.box h0) (hI.val5 (hn 4 (by decide)) h0 (by omega))
    case fin =>
      intro L X V hL hI
      replace hL : ∀ i, i < 6 → L i = true := hL
      have hsz := HSZ.out
      have hgl := HGL.out
      refine ⟨keeps_turn hI.turn (fun i e => by omega), hI.turn.mono (fun i _ e => by show ¬ (i = w4.heap.size ∨ i = w4.heap.size + 1); omega), ⟨hI.box2 (hL 5 (by decide)), ?_⟩, q3.turn hI.turn (by omega) hhne, ?_⟩
      · have := hI.row2 (hL 4 (by decide))
        rw [HTK.out, List.map_append]
        have e : Ss.encW (bytesC pc) = .string S := by rw [← HS.out]; rfl
        rw [List.map_cons, List.map_nil, e]
        exact this
      · exact ⟨hI.turn.os.trans q4.os, hI.turn.tape.trans q4.tape, hI.turn.output.trans q4.output, Nat.le_trans q4.size hI.turn.size, fun i hi _ => (hI.turn.block i (Nat.lt_of_lt_of_le hi q4.size) (by omega)).trans (q4.block i hi (by simp))⟩
  case done =>
    rintro D W hD ⟨⟨q1, q2⟩, q3, q4⟩ hK
    rw [HPE.out] at q1 q2
    rw [List.take_of_length_le (by rw [HPL.out]; exact Nat.le_refl _)] at q2
    have c1 := q1.cell
    have HF : Hid (PagesX w (pagesL each n N) (.returned (.slice (some ⟨w2.heap.size, 0, none⟩) p p)) (W.putObj D (.deferred none))) := Lib.hid (by
      have hD2 : w.heap.size ≤ D := by have := HSZ.out; omega
      refine ⟨own_from q4 (grownBy_putObj' W D (.deferred none)) (fun r e => by cases e; exact hD2), w2.heap.size, p, by rw [HPL.out], ?_, HSZ.out.2.2⟩
      rw [HPL.out]
      exact Ss.Seg.own (ownsRow_putObj q2 (.deferred none) hK rfl))
    clear q1 q2 q3 q4
    gi_wp2
    go_wp2
    refine ⟨by simp, .inl ⟨_, _, rfl, run_takeDeferred hK, ?_⟩⟩
    refine ⟨_, results_tmp rfl _ _ _, ?_⟩
    exact HF.out
end Go.Proofs.Ytkinmcnmdfpjbaa.Cn
