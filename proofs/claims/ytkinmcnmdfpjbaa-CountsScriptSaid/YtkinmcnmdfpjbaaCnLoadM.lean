/-
  The program's read, fill, Load; counts read out of pages as plain data.
-/
import Derived.Test.YtkinmcnmdfpjbaaCnPut
import Derived.Test.YtkinmcnmdfpjbaaCnPages
import Derived.Test.YtkinmcnmdfpjbaaCnApartL
namespace Go.Proofs.Ytkinmcnmdfpjbaa.Cn
open Go.RowKit Bs Dv Gr
open Oct (putB ofB)

theorem cnts_snoc : ∀ (k : Nat) (b : List Int), 2 * k + 2 ≤ b.length → cntsB (k + 1) b = cntsB k b ++ [ofB ((b.drop (2 * k)).take 2)]
  | 0, b, h => by
    rw [show cntsB (0 + 1) b = if b.length < 2 then [] else ofB (b.take 2) :: cntsB 0 (b.drop 2) from rfl, if_neg (by omega)]
    rfl
  | k + 1, b, h => by
    rw [cntsB, if_neg (by omega), cnts_snoc k (b.drop 2) (by rw [List.length_drop]; omega), cntsB, if_neg (by omega), List.drop_drop, show 2 + 2 * k = 2 * (k + 1) by omega]
    rfl
theorem cnts_take (k : Nat) (b : List Int) (h : 2 * k ≤ b.length) : (cntsB k b).length = k := by
  induction k generalizing b with
  | zero => rfl
  | succ k ih => rw [cntsB, if_neg (by omega), List.length_cons, ih _ (by rw [List.length_drop]; omega)]
theorem spl_snoc (l : List Int) (p : Nat) (v : List Int) (x : Int) (h : p + v.length < l.length) : (spl l p v).set (p + v.length) x = spl l p (v ++ [x]) := by
  unfold spl
  have h1 : (l.take p ++ v).length = p + v.length := by rw [List.length_append, List.length_take]; omega
  rw [List.set_append_right _ _ (by omega), h1, Nat.sub_self, List.drop_eq_getElem_cons (show p + v.length < l.length by omega), List.set_cons_zero, List.length_append, List.append_assoc, List.append_assoc, List.append_assoc]
  rfl
theorem spl_nil (l : List Int) (p : Nat) : spl l p [] = l := by
  unfold spl
  rw [List.append_nil, List.length_nil, Nat.add_zero, List.take_append_drop]

set_option maxHeartbeats 2000000 in
theorem read_any (h cap : Nat) (N : List Int) (o m c : Nat) (b : List Int) (w : World) (hu : UR w h cap N) (hom : o + m ≤ N.length) (hN : N.length ≤ 4096) (hb : IsB b) (hbl : b.length = 2 * m) (hc : m ≤ c) :
    Calls Try.prog 54 #[.slice (some ⟨h, o, none⟩) m c, .string (strOfNums b)] w fun e w' => (∃ v, e = .returned v) ∧ UR w' h cap (spl N o (cntsB m b)) ∧ Turn w w' (· = h) := by
  obtain ⟨bc, W1, hcv, hreg, hT1, hbc, hbm⟩ := conv_bytes b hb (by omega) w
  have HU1 : Hid (UR W1 h cap (spl N o (cntsB 0 b))) := Lib.hid (by rw [cntsB, spl_nil N o]; exact hu.turn hT1 id)
  have HT1 := Lib.hid hT1
  have hgb : w.heap.size ≠ h := by have := hu.lt; omega
  have HGB := Lib.hid hgb
  have HREG := Lib.hid hreg
  have HSP := Lib.hid (fun k (hk : k < m) => (by
    have h1 := cnts_take k b (by omega)
    have h2 := spl_snoc N o (cntsB k b) (ofB ((b.drop (2 * k)).take 2)) (by rw [h1]; omega)
    rw [h1, ← cnts_snoc k b (by omega)] at h2
    exact h2 : (spl N o (cntsB k b)).set (o + k) (ofB ((b.drop (2 * k)).take 2)) = spl N o (cntsB (k + 1) b)))
  have HSL := Lib.hid (fun k (hk : k ≤ m) => (spl_len N o (cntsB k b) (by rw [cnts_take k b (by omega)]; omega) : (spl N o (cntsB k b)).length = N.length))
  have HIS := Lib.hid (fun k => (fun x hx => hb x (List.mem_of_mem_drop (List.mem_of_mem_take hx)) : IsB ((b.drop (2 * k)).take 2)))
  have HBL := Lib.hid (fun k (hk : k < m) => (by rw [List.length_take, List.length_drop]; omega : ((b.drop (2 * k)).take 2).length = 2))
  have HSG := Lib.hid (fun W k (hk : k < m) (t : Turn W1 W (· = h)) => (by
    have h1 := ((hreg.turn t hgb).seg hbc hbm).drop (k := 2 * k) (by omega)
    have h2 := h1.take (m := 2) (by omega)
    rw [Nat.zero_add] at h2
    exact h2 : Seg W (some ⟨w.heap.size, 2 * k, none⟩) 2 (bc - 2 * k) ((b.drop (2 * k)).take 2)))
  obtain ⟨L2, hL2⟩ : ∃ L, b.length = L := ⟨_, rfl⟩
  rw [hL2] at hcv hbc
  have HL2 : Hid (L2 = 2 * m) := Lib.hid (by omega)
  obtain ⟨S, hS⟩ : ∃ S, strOfNums b = S := ⟨_, rfl⟩
  rw [hS] at hcv ⊢
  unfold maxLen at hbm
  have HTW : Hid (∀ W, Turn W1 W (· = h) → Turn w W (· = h)) := Lib.hid (fun W t => (hT1.mono (fun _ _ e => e.elim) : Turn w W1 (· = h)).trans t (fun _ _ e => e))
  clear hS hu hT1 hreg hb hbl hgb hL2
  go_enter Try.func54, Try.ntmps54
  go_wp2
  clear hcv
  go_loopw [10] (fun si wr => ∃ k : Nat, k ≤ m ∧ si = .int .i64 k ∧ Hid (UR wr h cap (spl N o (cntsB k b))) ∧ Hid (Turn W1 wr (· = h))) (fun si _ => m - (intOf si).toNat)
  case atStart => exact ⟨0, by omega, rfl, HU1, Lib.hid (Turn.refl _ _)⟩
  case round =>
    clear HU1
    obtain ⟨k, hk, rfl, HU, HT⟩ := hrel
    by_cases hlt : k < m
    · have hq : decide (k < m) = true := decide_eq_true hlt
      obtain ⟨hcell, hfr⟩ := HU.out.row (o + k) (by rw [HSL.out k hk]; omega)
      have HS2 := Lib.hid (HU.out.set (o + k) (ofB ((b.drop (2 * k)).take 2)) (by rw [HSL.out k hk]; omega))
      rw [HSP.out k hlt] at HS2
      have HOF := Lib.hid (Oct.of_any w.heap.size (2 * k) 2 (bc - 2 * k) _ wr (HSG.out wr k hlt HT.out) (HIS.out k) (by decide))
      have hbd := Oct.ofB_bound _ (HIS.out k)
      rw [HBL.out k hlt, show (256 : Int) ^ 2 = 65536 from by decide] at hbd
      obtain ⟨x, hx⟩ : ∃ x, ofB ((b.drop (2 * k)).take 2) = x := ⟨_, rfl⟩
      rw [hx] at HS2 HOF hbd
      obtain ⟨y, hy⟩ : ∃ y, (spl N o (cntsB k b)).getD (o + k) 0 = y := ⟨_, rfl⟩
      rw [hy] at hcell
      have ew : IntKind.u16.wrap x = x := by rw [IntKind.wrap_u16]; omega
      have HT2 := Lib.hid (HT.out.trans (Turn.setCell wr ⟨h, o + k, none⟩ (.int .u16 x) (S := (· = h)) rfl) (fun _ _ e => e))
      obtain ⟨q, hqq⟩ : ∃ q, 2 * k = q := ⟨_, rfl⟩
      rw [hqq] at HOF
      have e2 : 2 * (k : Int) = (q : Int) := by omega
      have e3 : IntKind.i64.wrap (q : Int) = (q : Int) := IntWalk.i64_in _ (by omega)
      have hq2 : q + 2 ≤ L2 := by have := HL2.out; omega
      have hbq : ¬ bc = q := by omega
      have HQQ := Lib.hid hqq
      clear hx hy hbd HU HT hqq
      go_wp2_with fail
      refine HOF.out.mono ?_
      rintro e w' ⟨rfl, rfl⟩
      dsimp only
      go_wp2
      go_roundw
      case rel => exact ⟨k + 1, by omega, by go_num, HS2, HT2⟩
      case measure => simp [intOf]; omega
    · have hq : decide (k < m) = false := decide_eq_false hlt
      obtain rfl : k = m := by omega
      go_wp2
      go_end0
      exact ⟨⟨_, rfl⟩, HU.out, HTW.out _ HT.out⟩
end Go.Proofs.Ytkinmcnmdfpjbaa.Cn
namespace Go.Proofs.Ytkinmcnmdfpjbaa.Cn
open Dv
open Su (GeoOk pagesF)
open Oct (putB ofB)

theorem cnts_app : ∀ (o m : Nat) (F G : List Int), F.length = 2 * o → cntsB (o + m) (F ++ G) = cntsB o F ++ cntsB m G
  | 0, m, F, G, h => by
    obtain rfl : F = [] := List.length_eq_zero_iff.1 (by omega)
    rw [Nat.zero_add, List.nil_append]
    rfl
  | o + 1, m, F, G, h => by
    match F, h with
    | x :: y :: F, h =>
      have h2 : F.length = 2 * o := by simp at h; omega
      rw [show o + 1 + m = (o + m) + 1 by omega, cntsB, if_neg (by simp), cntsB, if_neg (by simp)]
      show ofB [x, y] :: cntsB (o + m) (F ++ G) = ofB [x, y] :: cntsB o F ++ cntsB m G
      rw [cnts_app o m F G h2]
      rfl
    | [x], h => simp at h; omega
    | [], h => simp at h
theorem spl_app (A D v : List Int) : spl (A ++ D) A.length v = A ++ v ++ D.drop v.length := by
  unfold spl
  rw [List.take_left, List.drop_append, List.drop_of_length_le (by omega), Nat.add_sub_cancel_left]
  rfl
/-- how many counts lie in the first k pages -/
def offC (n each k : Nat) : Nat := min (k * each) n
theorem off_succ {n each k : Nat} (h : k * each < n) : offC n each (k + 1) = offC n each k + pieceL n each k := by
  unfold offC pieceL
  rw [Nat.add_mul, Nat.one_mul]
  omega
theorem off_at {n each k : Nat} (h : k * each < n) : offC n each k = k * each := by unfold offC; omega
theorem off_end {n each : Nat} (he : 0 < each) : offC n each (piecesC n each) = n := by
  have h : ¬ piecesC n each * each < n := fun q => Nat.lt_irrefl _ ((pieces_lt n each _ he).2 q)
  unfold offC; omega
/-- the first k pages are as long as they should -/
def LensOk (n each : Nat) (ps : List (List Int)) (k : Nat) : Prop := ∀ j, j < k → (ps.getD j []).length = 2 * pieceL n each j
theorem flat_off {n each : Nat} (he : 0 < each) {ps : List (List Int)} (hp : ps.length = piecesC n each) : ∀ k, k ≤ piecesC n each → LensOk n each ps k → (ps.take k).flatten.length = 2 * offC n each k
  | 0, _, _ => by
    unfold offC
    simp
  | k + 1, hk, hl => by
    have hkn : k * each < n := (pieces_lt n each k he).1 (by omega)
    have ih := flat_off he hp k (by omega) (fun j hj => hl j (by omega))
    have h1 := hl k (by omega)
    rw [List.getD_eq_getElem?_getD, List.getElem?_eq_getElem (by omega)] at h1
    have h1 : (ps[k]).length = 2 * pieceL n each k := h1
    rw [List.take_succ_eq_append_getElem (by omega), List.flatten_append, List.length_append, ih, off_succ hkn, List.flatten_cons, List.flatten_nil, List.append_nil, h1]
    omega
/-- the row behind the first k pages -/
def rowK (n each : Nat) (ps : List (List Int)) (N0 : List Int) (k : Nat) : List Int := cntsB (offC n each k) (ps.take k).flatten ++ N0.drop (offC n each k)
theorem rowK_zero (n each : Nat) (ps : List (List Int)) (N0 : List Int) : rowK n each ps N0 0 = N0 := by
  unfold rowK offC
  rw [Nat.zero_mul, Nat.zero_min]
  rfl
theorem rowK_len {n each : Nat} (he : 0 < each) {ps : List (List Int)} (hp : ps.length = piecesC n each) {N0 : List Int} (hN : N0.length = n) (k : Nat) (hk : k ≤ piecesC n each) (hl : LensOk n each ps k) : (rowK n each ps N0 k).length = n := by
  unfold rowK
  rw [List.length_append, cnts_take _ _ (by rw [flat_off he hp k hk hl]; exact Nat.le_refl _), List.length_drop, hN]
  unfold offC
  omega
theorem rowK_succ {n each : Nat} (he : 0 < each) {ps : List (List Int)} (hp : ps.length = piecesC n each) {N0 : List Int} (k : Nat) (hk : k < piecesC n each) (hl : LensOk n each ps (k + 1)) :
    spl (rowK n each ps N0 k) (k * each) (cntsB (pieceL n each k) (ps.getD k [])) = rowK n each ps N0 (k + 1) := by
  have hkn : k * each < n := (pieces_lt n each k he).1 hk
  have hf := flat_off he hp k (by omega) (fun j hj => hl j (by omega))
  have h1 := hl k (by omega)
  have e : (ps.take (k + 1)).flatten = (ps.take k).flatten ++ ps.getD k [] := by
    rw [List.take_succ_eq_append_getElem (by omega), List.flatten_append, List.flatten_cons, List.flatten_nil, List.append_nil, List.getD_eq_getElem?_getD, List.getElem?_eq_getElem (by omega)]
    rfl
  have hc : (cntsB (offC n each k) (ps.take k).flatten).length = k * each := by rw [cnts_take _ _ (by rw [hf]; exact Nat.le_refl _), off_at hkn]
  unfold rowK
  have hs := spl_app (cntsB (offC n each k) (ps.take k).flatten) (N0.drop (offC n each k)) (cntsB (pieceL n each k) (ps.getD k []))
  rw [hc] at hs
  rw [hs, off_succ hkn, e, cnts_app _ _ _ _ hf, cnts_take _ _ (by rw [h1]; exact Nat.le_refl _), List.drop_drop]
theorem rowK_end {n each : Nat} (he : 0 < each) {ps : List (List Int)} (hp : ps.length = piecesC n each) {N0 : List Int} (hN : N0.length = n) : rowK n each ps N0 (piecesC n each) = cntsB n ps.flatten := by
  unfold rowK
  rw [off_end he, List.take_of_length_le (by omega), List.drop_of_length_le (by omega), List.append_nil]
theorem lens_iff {size : Int} {n : Nat} (h : GeoOk size n) {ps : List (List Int)} (hp : ps.length = piecesC n (eachC size)) :
    ps.map List.length = (pagesL (eachC size) n (List.replicate n 0)).map List.length ↔ LensOk n (eachC size) ps (piecesC n (eachC size)) := by
  have he := (each_pos h).1
  have hl := (pages_pieces h (List.replicate n 0) (by rw [List.length_replicate])).1
  have hg : ∀ j, j < piecesC n (eachC size) → ((pagesL (eachC size) n (List.replicate n 0)).map List.length)[j]? = some (2 * pieceL n (eachC size) j) := fun j hj => by
    rw [List.getElem?_map, pages_get (eachC size) (by omega) n j _ (by rw [List.length_replicate]; exact Nat.le_refl _) (by rw [List.length_replicate]; exact (pieces_lt n _ j (by omega)).1 hj)]
    show some (bytesC _).length = _
    rw [bytes_len, List.length_take, List.length_drop, List.length_replicate]
    rfl
  constructor
  · intro e j hj
    have h1 := hg j hj
    rw [← e, List.getElem?_map, List.getElem?_eq_getElem (by omega)] at h1
    rw [List.getD_eq_getElem?_getD, List.getElem?_eq_getElem (by omega)]
    exact Option.some.inj h1
  · intro k
    refine List.ext_getElem? fun j => ?_
    by_cases hj : j < piecesC n (eachC size)
    · rw [hg j hj, List.getElem?_map, List.getElem?_eq_getElem (by omega)]
      have := k j hj
      rw [List.getD_eq_getElem?_getD, List.getElem?_eq_getElem (by omega)] at this
      exact congrArg some this
    · rw [List.getElem?_eq_none (by rw [List.length_map]; omega), List.getElem?_eq_none (by rw [List.length_map, hl]; omega)]
/-- what Load reads, where there are as many pages as there should be -/
theorem load_bad {size : Int} {n : Nat} (h : GeoOk size n) {ps : List (List Int)} (hp : ps.length = piecesC n (eachC size)) (hl : ¬ LensOk n (eachC size) ps (piecesC n (eachC size))) : loadC size n ps = ([], 4) := by
  unfold loadC
  rw [if_neg (fun k => k h), if_neg (fun k => k (by rw [hp, (pages_pieces h (List.replicate n 0) (by rw [List.length_replicate])).2])), if_pos (fun k => hl ((lens_iff h hp).1 k))]
theorem load_two {size : Int} {n : Nat} (h : GeoOk size n) {ps : List (List Int)} (hp : ps.length = piecesC n (eachC size)) (hl : LensOk n (eachC size) ps (piecesC n (eachC size))) :
    loadC size n ps = if (cntsB n ps.flatten).getD 0 0 ≠ 1 ∨ (cntsB n ps.flatten).getD 1 0 ≠ 1 then ([], 4) else (cntsB n ps.flatten, 0) := by
  unfold loadC
  rw [if_neg (fun k => k h), if_neg (fun k => k (by rw [hp, (pages_pieces h (List.replicate n 0) (by rw [List.length_replicate])).2])), if_neg (fun k => k ((lens_iff h hp).2 hl))]
end Go.Proofs.Ytkinmcnmdfpjbaa.Cn
namespace Go.Proofs.Ytkinmcnmdfpjbaa.Cn
open Go.RowKit Go.Shelf Bs Dv Gr Dr
open Su (GeoOk pagesF)
open Cf (Kept wpIn_feedsl keeps_turn)

attribute [local go_sem] Oper.semAt_some

/-- What fill leaves: the counts that were read, or that they are none. -/
def FillX (g h cap : Nat) (size : Int) (n : Nat) (ps : List (List Int)) (w : World) (e : Ending) (w' : World) : Prop :=
  Turn w w' (· = h) ∧ ((e = .returned (.bool true) ∧ (loadC size n ps).2 = 0 ∧ CC w' g h cap size (loadC size n ps).1) ∨ (e = .returned (.bool false) ∧ (loadC size n ps).2 = 4))

theorem results_box {fn : Func} {p : Tmp} (h : fn.results = #[.cell p 4]) (tmps : Array Value) (w : World) (B : Nat) (b : Bool) (hp : tmps.getD p undef = .pointer (some ⟨B, 0, none⟩)) (hb : Boxed w B 4 (.bool b)) : (results fn tmps).run Try.prog w = .ok (.bool b) w := by
  have c := hb.cell
  have hp2 : tmps[p]?.getD undef = .pointer (some ⟨B, 0, none⟩) := by rw [← Array.getD_eq_getD_getElem?]; exact hp
  simp [results, h, go_sem, hp2, c]
theorem turn_box {W W' : World} {B : Nat} {t : TypeId} {v : Value} {S : Nat → Prop} (hb : Boxed W B t v) (h : Turn W W' S) (hS : ¬ S B) : Boxed W' B t v := (h.block B hb.lt hS).trans hb
theorem cc_of_ur {w w' : World} {g h cap : Nat} {size : Int} {N M : List Int} (hc : CC w g h cap size N) (t : Turn w w' (· = h)) (hu : UR w' h cap M) (hl : M.length = N.length) : CC w' g h cap size M := by
  refine ⟨?_, hu.row, hc.ne, hu.le, hu.capm, by rw [hl]; exact hc.small, hu.lt⟩
  rw [hl, t.block g hc.glt hc.ne]
  exact hc.box
theorem turn_new {w W W' : World} {h B : Nat} (t : Turn w W (· = h)) (t2 : Turn W W' (· = B)) (hB : w.heap.size ≤ B) : Turn w W' (· = h) := t.trans t2 (fun i hi e => by have e2 : i = B := e; omega)

set_option maxRecDepth 100000 in
set_option maxHeartbeats 8000000 in
theorem fill_any (g h cap : Nat) (size : Int) (n : Nat) (N0 : List Int) (a : Option Addr) (pc : Nat) (ps : List (List Int)) (w : World) (hc : CC w g h cap size N0) (hln : N0.length = n) (hgeo : GeoOk size n)
    (hs : Ss.Seg w a ps.length pc ps) (hb : ∀ p ∈ ps, IsB p ∧ p.length ≤ 140737488355328) (hp : ps.length = piecesC n (eachC size)) (hah : ∀ ad, a = some ad → ad.block ≠ h) :
    Calls Try.prog 45 #[.pointer (some ⟨g, 0, none⟩), .slice a ps.length pc] w (FillX g h cap size n ps w) := by
  have he := (each_pos hgeo).1
  have hn : 8 ≤ n ∧ n ≤ 4096 := by unfold GeoOk at hgeo; omega
  have hp74 := pieces_le he hn.2
  have HPP := Lib.hid (fun W => perPage_any size n W hgeo)
  have he2 : eachC size ≤ 4096 := by
    have h1 := (each_pos hgeo).2
    have h2 := Su.geo_room hgeo
    have h3 := hgeo.2.1
    omega
  have HBAD := Lib.hid (fun q => load_bad (ps := ps) hgeo hp q)
  have HTWO := Lib.hid (fun q => load_two (ps := ps) hgeo hp q)
  have hpos : 0 < piecesC n (eachC size) := (pieces_lt n _ 0 (by omega)).2 (by omega)
  obtain ⟨each, hea⟩ : ∃ each, eachC size = each := ⟨_, rfl⟩
  rw [hea] at hp HPP he hp74 he2 HBAD HTWO hpos
  have HCH := Lib.hid (fun a c W => chunk_any a n c each W (by omega))
  have HRS := Lib.hid (fun k hk hl => rowK_succ (n := n) (each := each) (by omega) hp (N0 := N0) k hk hl)
  have HRE := Lib.hid (rowK_end (n := n) (each := each) (by omega) hp (N0 := N0) hln)
  have HRL := Lib.hid (fun k hk hl => rowK_len (n := n) (each := each) (by omega) hp (N0 := N0) hln k hk hl)
  have HRZ := Lib.hid (rowK_zero n each ps N0)
  have HPE := Lib.hid hp
  obtain ⟨p, hpp⟩ : ∃ p, ps.length = p := ⟨_, rfl⟩
  rw [hpp] at hp hs ⊢
  rw [← hp] at hp74 hpos
  have HPP2 := Lib.hid hpp
  have HPQ := Lib.hid hp
  have HLT : Hid (∀ ad, a = some ad → ad.block < w.heap.size) := Lib.hid (fun ad had => by
    have h1 := hs.at_ ad had 0 _ (by rw [List.getElem?_map, List.getElem?_eq_getElem (by omega)]; rfl)
    have h2 := World.block_lt_of_cell? w _ h1
    rwa [block_add] at h2)
  have hanone : a ≠ none := fun e => by have := (hs.nil_ e).1; omega
  obtain ⟨⟨ag, ao, asp⟩, rfl⟩ := Option.ne_none_iff_exists'.1 hanone
  obtain ⟨ag', ao', e1, hcells⟩ := hs.addr (by omega)
  obtain rfl : asp = none := by cases e1; rfl
  obtain rfl : ag = ag' := by cases e1; rfl
  obtain rfl : ao = ao' := by cases e1; rfl
  have hle := hs.le
  have HCE := Lib.hid hcells
  have HAG : Hid (ag ≠ h ∧ ag < w.heap.size) := Lib.hid ⟨hah _ rfl, HLT.out _ rfl⟩
  have HC := Lib.hid hc
  have hc0 := hc.cells.1
  have hc1 := hc.cells.2.1
  rw [hln] at hc1
  have HLN := Lib.hid hln
  have HB := Lib.hid hb
  have HEA := Lib.hid hea
  clear hc hpp hea hln hs hb hah hanone e1 hcells HLT hp
  refine (callsIn_wide (n := 3)).1 ?_
  refine callsIn_of_wp_marks Try.func45 rfl trivial ?_ rfl
  simp only [Try.ntmps45, List.size_toArray, List.length_cons, List.length_nil, Nat.reduceAdd, Nat.reduceSub, Array.replicate_succ, Array.replicate_zero, List.push_toArray, List.append_toArray, List.nil_append, List.cons_append]
  refine wpIn_wide.2 ?_
  go_wp2
  have HX3 : Hid (Boxed (((w.alloc (.cells #[.slice (some ⟨ag, ao, none⟩) p pc] 37)).alloc (.cells #[.bool false] 4)).alloc (.cells #[.int .i64 0] 3)) w.heap.size 37 (.slice (some ⟨ag, ao, none⟩) p pc) ∧
      Boxed (((w.alloc (.cells #[.slice (some ⟨ag, ao, none⟩) p pc] 37)).alloc (.cells #[.bool false] 4)).alloc (.cells #[.int .i64 0] 3)) (w.heap.size + 1) 4 (.bool false) ∧
      Boxed (((w.alloc (.cells #[.slice (some ⟨ag, ao, none⟩) p pc] 37)).alloc (.cells #[.bool false] 4)).alloc (.cells #[.int .i64 0] 3)) (w.heap.size + 1 + 1) 3 (.int .i64 ((0 : Nat) : Int))) := Lib.hid (by
    have q1 := Boxed.new w 37 (.slice (some ⟨ag, ao, none⟩) p pc)
    have q2 := Boxed.new (w.alloc (.cells #[.slice (some ⟨ag, ao, none⟩) p pc] 37)) 4 (.bool false)
    have q3 := Boxed.new ((w.alloc (.cells #[.slice (some ⟨ag, ao, none⟩) p pc] 37)).alloc (.cells #[.bool false] 4)) 3 (.int .i64 0)
    simp only [World.size_alloc] at q2 q3
    exact ⟨(q1.alloc _).alloc _, q2.alloc _, q3⟩)
  have HG3 : Hid (w.grownBy (((w.alloc (.cells #[.slice (some ⟨ag, ao, none⟩) p pc] 37)).alloc (.cells #[.bool false] 4)).alloc (.cells #[.int .i64 0] 3)) none) := Lib.hid (grown_then (grown_then (grown_alloc _ _) (grown_alloc _ _)) (grown_alloc _ _))
  have hz3 : (((w.alloc (.cells #[.slice (some ⟨ag, ao, none⟩) p pc] 37)).alloc (.cells #[.bool false] 4)).alloc (.cells #[.int .i64 0] 3)).heap.size = w.heap.size + 3 := by simp [World.size_alloc]
  obtain ⟨W3, hW3⟩ : ∃ X, ((w.alloc (.cells #[.slice (some ⟨ag, ao, none⟩) p pc] 37)).alloc (.cells #[.bool false] 4)).alloc (.cells #[.int .i64 0] 3) = X := ⟨_, rfl⟩
  rw [hW3] at HX3 HG3 hz3 ⊢
  have HZ3 := Lib.hid hz3
  have b0 := (grown_turn HG3.out).cell hc0 id
  have b1 := (grown_turn HG3.out).cell hc1 id
  have b2 := (HC.out.old HG3.out).cells.2.2.1
  rw [HLN.out] at b2
  clear hW3 hc0 hc1 hz3
  have HD3 := Lib.hid (grown_drew W3)
  go_region_held3 (fun w' => w'.cell? ⟨g, 0, none⟩ = some (.int .i64 size) ∧ w'.cell? ⟨g, 1, none⟩ = some (.int .i64 (n : Int)) ∧ w'.cell? ⟨g, 2, none⟩ = some (.slice (some ⟨h, 0, none⟩) n cap)) (go_keep)
    (first
      | (go_at_call 43
         (with_reducible refine (HPP.out _).mono ?_)
         rintro e w4 ⟨rfl, hg4⟩
         have HG4 := Lib.hid (grown_then HD3.out hg4)
         have k0 := (grown_turn HG4.out).cell b0 id
         have k1 := (grown_turn HG4.out).cell b1 id
         have k2 := (grown_turn HG4.out).cell b2 id
         clear hg4)
      | (go_at_call 42
         (with_reducible refine (HCH.out _ _ _).mono ?_)
         rintro e w5 ⟨rfl, hw5⟩
         have HG5 : Hid (W3.grownBy w5 none) := Lib.hid (by rw [hw5]; exact grown_then HG4.out (grown_then (grown_alloc _ _) (grown_alloc _ _)))
         have HW5 := Lib.hid hw5
         have k0 := (grown_turn HG5.out).cell b0 id
         have k1 := (grown_turn HG5.out).cell b1 id
         have k2 := (grown_turn HG5.out).cell b2 id
         clear hw5)
      | fail)
  go_wp2
  refine (wpIn_wide (n := 3)).1 ?_
  have HSZ : Hid (w.heap.size + 3 ≤ w4.heap.size ∧ w5.heap.size = w4.heap.size + 2) := Lib.hid (by
    refine ⟨?_, ?_⟩
    · have := HG4.out.size; have := HZ3.out; omega
    · rw [HW5.out]; simp [World.size_alloc])
  have HA5 : Hid (w5.cell? ⟨w4.heap.size, 0, none⟩ = some (.slice (some ⟨h, 0, none⟩) n cap) ∧ w5.cell? ⟨w4.heap.size + 1, 0, none⟩ = some (.int .i64 each)) := Lib.hid (by
    have q1 := Boxed.new w4 69 (.slice (some ⟨h, 0, none⟩) n cap)
    have q2 := Boxed.new (w4.alloc (.cells #[.slice (some ⟨h, 0, none⟩) n cap] 69)) 3 (.int .i64 each)
    rw [World.size_alloc] at q2
    rw [HW5.out]
    exact ⟨(q1.alloc _).cell, q2.cell⟩)
  have HGW5 := Lib.hid (grown_then HG3.out HG5.out)
  have HC5 := Lib.hid (HC.out.old HGW5.out)
  have HX5 : Hid (Boxed w5 w.heap.size 37 (.slice (some ⟨ag, ao, none⟩) p pc) ∧ Boxed w5 (w.heap.size + 1) 4 (.bool false) ∧ Boxed w5 (w.heap.size + 1 + 1) 3 (.int .i64 ((0 : Nat) : Int))) := Lib.hid ⟨HX3.out.1.kept HG5.out (fun e => by cases e), HX3.out.2.1.kept HG5.out (fun e => by cases e), HX3.out.2.2.kept HG5.out (fun e => by cases e)⟩
  have HGL := Lib.hid (⟨HC.out.glt, HC.out.lt, HC.out.ne⟩ : g < w.heap.size ∧ h < w.heap.size ∧ g ≠ h)
  have hncap : n ≤ cap := by have := HC.out.le; rw [HLN.out] at this; exact this
  clear b0 b1 b2 k0 k1 k2
  refine wpIn_feedsl rfl (by decide) (gf := 52) (first := #[]) (lb := #[.pointer (some ⟨w4.heap.size, 0, none⟩), .pointer (some ⟨w4.heap.size + 1, 0, none⟩)]) rfl trivial (enters_of Try.func52 (by kernel_rfl) rfl)
    (chunk_feeds 2 (by decide) (fun i => i = w4.heap.size ∨ i = w4.heap.size + 1) w4.heap.size (w4.heap.size + 1) h n cap each w5 HA5.out.1 HA5.out.2 (.inl rfl) (.inr rfl) (fun i hi => by have := HSZ.out; omega) hn.2 hncap ⟨by omega, he2⟩) (Below.refl _ _) (fun h k => Kept.t h k) (Kept.b (fun i hi => by have := HSZ.out; omega)) (fun _ => rfl)
    (fun k W => (Boxed W w.heap.size 37 (.slice (some ⟨ag, ao, none⟩) p pc) ∧ Boxed W (w.heap.size + 1) 4 (.bool false) ∧ Boxed W (w.heap.size + 1 + 1) 3 (.int .i64 (k : Int))) ∧ CC W g h cap size (rowK n each ps N0 k) ∧ Turn w W (· = h) ∧ LensOk n each ps k)
    (fun c W => c = .ret ∧ Boxed W (w.heap.size + 1) 4 (.bool false) ∧ Turn w W (· = h) ∧ (loadC size n ps).2 = 4)
    (fun k W W' row ⟨⟨q1, q2, q3⟩, q4, q5, q6⟩ hg hr => by
      have hsz := HSZ.out
      have hgl := HGL.out
      have hne : ∀ i, i < w5.heap.size → some i ≠ row := fun i hi e => by have := (hr i e.symm).1; omega
      have ht := Turn.of_grown hg (S := fun i => w5.heap.size ≤ i) (fun i e _ => (hr i e).1)
      exact ⟨⟨q1.kept hg (hne _ (by omega)), q2.kept hg (hne _ (by omega)), q3.kept hg (hne _ (by omega))⟩, q4.turn ht (by show ¬ w5.heap.size ≤ g; omega) (by show ¬ w5.heap.size ≤ h; omega), q5.trans (Turn.of_grown hg (S := fun i => w5.heap.size ≤ i) (fun i e _ => (hr i e).1)) (fun i hi e => by have e2 : w5.heap.size ≤ i := e; omega), q6⟩)
    (fun c k W W' row ⟨q1, q2, q3, q4⟩ hg hr => by
      have hsz := HSZ.out
      have hne : ∀ i, i < w5.heap.size → some i ≠ row := fun i hi e => by have := (hr i e.symm).1; omega
      exact ⟨q1, q2.kept hg (hne _ (by omega)), q3.trans (Turn.of_grown hg (S := fun i => w5.heap.size ≤ i) (fun i e _ => (hr i e).1)) (fun i hi e => by have e2 : w5.heap.size ≤ i := e; omega), q4⟩)
    ⟨HX5.out, by rw [HRZ.out]; exact HC5.out, (grown_turn HGW5.out).mono (fun _ _ e => e.elim), fun j hj => by omega⟩
    (fun k => { tmps := #[.pointer (some ⟨g, 0, none⟩), .slice (some ⟨ag, ao, none⟩) p pc, undef, .pointer (some ⟨w.heap.size, 0, none⟩), .pointer (some ⟨w.heap.size + 1, 0, none⟩), .pointer (some ⟨w.heap.size + 1 + 1, 0, none⟩), .slice (some ⟨h, k * each, none⟩) (pieceL n each k) (pieceL n each k), undef, undef, .pointer (some ⟨g, 0, none⟩), .pointer (some ⟨g, 0, none⟩), .pointer (some ⟨g, 2, none⟩), .slice (some ⟨h, 0, none⟩) n cap, .pointer (some ⟨g, 0, none⟩), .pointer (some ⟨g, 0, none⟩), .pointer (some ⟨g, 0, none⟩), .agg #[.int .i64 size, .int .i64 n], .int .i64 each,
      .func (.func 52) #[] #[.pointer (some ⟨w4.heap.size, 0, none⟩), .pointer (some ⟨w4.heap.size + 1, 0, none⟩)], .slice (some ⟨h, k * each, none⟩) (pieceL n each k) (pieceL n each k), undef, undef, undef, undef, undef, undef, undef, undef, undef, undef, undef, undef, undef, undef, undef, undef, undef, undef, undef, undef, undef, undef, undef, undef, undef, undef, undef, undef, undef, undef], defers := [] }) ?assign ?body ?done ?stop
  case assign =>
    intro l k W K hK
    unfold encP
    gi_wp2
    exact hK
  case stop =>
    rintro D c W hD ⟨rfl, q1, q2, q3⟩ hK
    have hsz := HSZ.out
    have HF : Hid (FillX g h cap size n ps w (.returned (.bool false)) (W.putObj D (.deferred none))) := Lib.hid ⟨q2.trans (Turn.of_grown (grownBy_putObj' W D (.deferred none)) (S := (· = D)) (fun i e _ => by cases e; rfl)) (fun i hi e => by have e2 : i = D := e; omega), .inr ⟨rfl, q3⟩⟩
    have q4 : Boxed (W.putObj D (.deferred none)) (w.heap.size + 1) 4 (.bool false) := q1.kept (grownBy_putObj' W D (.deferred none)) (fun e => by have := Option.some.inj e; omega)
    clear q1 q2 q3
    dsimp only
    gi_wp2
    refine ⟨by simp, .inl ⟨_, _, rfl, run_takeDeferred hK, ?_⟩⟩
    refine ⟨_, results_box rfl _ _ _ _ rfl q4, ?_⟩
    exact HF.out
  case body =>
    rintro y k W hk ⟨⟨q1, q2, q3⟩, q4, q5, q6⟩
    have hsz := HSZ.out
    have hgl := HGL.out
    have hkn : k * each < n := (pieces_lt n each k (by omega)).1 hk
    have hkp : k < p := by rw [HPQ.out]; exact hk
    have cS := q5.cell (HCE.out k hkp) HAG.out.1
    have c3 := q1.cell
    have c5 := q3.cell
    have f4 := q2.frozen
    have c4 := q2.cell
    have f5 := q3.frozen
    have hmem : ps.getD k [] ∈ ps := by
      rw [List.getD_eq_getElem?_getD, List.getElem?_eq_getElem (by rw [HPP2.out]; exact hkp)]
      exact List.getElem_mem _
    have hbk := HB.out _ hmem
    have hq4096 : pieceL n each k ≤ 4096 := by unfold pieceL; omega
    have HRD := Lib.hid (fun (hL : (ps.getD k []).length = 2 * pieceL n each k) => read_any h cap (rowK n each ps N0 k) (k * each) (pieceL n each k) (pieceL n each k) (ps.getD k []) W ⟨q4.row, q4.le, q4.capm, q4.lt⟩ (by rw [HRL.out k (by omega) q6]; unfold pieceL; omega) q4.small hbk.1 hL (Nat.le_refl _))
    have HRK := Lib.hid (fun (hL : (ps.getD k []).length = 2 * pieceL n each k) => HRS.out k hk (fun j hj => by
      by_cases e : j = k
      · rw [e]; exact hL
      · exact q6 j (by omega)))
    have HLK := Lib.hid (fun (hL : (ps.getD k []).length = 2 * pieceL n each k) => (fun j hj => by
      by_cases e : j = k
      · rw [e]; exact hL
      · exact q6 j (by omega) : LensOk n each ps (k + 1)))
    have HLB : Hid ((ps.getD k []).length ≠ 2 * pieceL n each k → (loadC size n ps).2 = 4) := Lib.hid (fun hL => by rw [HBAD.out (fun q => hL (q k hk))])
    have hlen : (strOfNums (ps.getD k [])).size = (ps.getD k []).length := strOfNums_size _
    have hlmax := hbk.2
    have Q1 := Lib.hid q1
    have Q2 := Lib.hid q2
    have Q3 := Lib.hid q3
    have Q4 := Lib.hid q4
    have Q5 := Lib.hid q5
    have Q6 := Lib.hid q6
    have HKN := Lib.hid (⟨hk, hkp⟩ : k < piecesC n each ∧ k < p)
    obtain ⟨o, hoo⟩ : ∃ o, k * each = o := ⟨_, rfl⟩
    obtain ⟨q, hqq⟩ : ∃ q, pieceL n each k = q := ⟨_, rfl⟩
    obtain ⟨pk, hpk⟩ : ∃ pk, ps.getD k [] = pk := ⟨_, rfl⟩
    rw [hoo, hqq, hpk] at HRD HRK
    rw [hqq, hpk] at HLK HLB
    rw [hpk] at cS hlen hlmax
    rw [hqq] at hq4096
    rw [hoo, hqq]
    obtain ⟨S, hS⟩ : ∃ S, strOfNums pk = S := ⟨_, rfl⟩
    rw [hS] at cS hlen HRD
    obtain ⟨ln, hln⟩ : ∃ l, pk.length = l := ⟨_, rfl⟩
    rw [hln] at hlen hlmax HRD HRK HLK HLB
    obtain ⟨q2', hq2⟩ : ∃ x, 2 * q = x := ⟨_, rfl⟩
    rw [hq2] at HRD HRK HLK HLB
    have e1 : 2 * (q : Int) = (q2' : Int) := by omega
    have e2 : IntKind.i64.wrap (q2' : Int) = (q2' : Int) := IntWalk.i64_in _ (by omega)
    have hk74 : k < 74 := by omega
    clear hoo hqq hpk hS hln hq2 hmem hbk q1 q2 q3 q4 q5 q6 hk hkn
    by_cases hL : ln = q2'
    · have k1 : ((ln : Int) != (q2' : Int)) = false := by subst hL; simp
      have HRD2 := Lib.hid (HRD.out hL)
      have HRK2 := Lib.hid (HRK.out hL)
      have HLK2 := Lib.hid (HLK.out hL)
      clear hL HRD HRK HLK HLB
      gi_wp2_with (first | (refine ⟨trivial, ?_⟩; gi_at_call 54; refine (CallsIn.inRound _ (callsIn_wide.2 HRD2.out)).mono ?_; rintro e w6 ⟨⟨v, rfl⟩, hu, ht⟩; have HU6 := Lib.hid hu; have HT6 := Lib.hid ht; have c5' := HT6.out.cell c5 (by show ¬ w.heap.size + 1 + 1 = h; omega); have f5' := (turn_box Q3.out HT6.out (by show ¬ w.heap.size + 1 + 1 = h; omega)).frozen; clear hu ht) | fail)
      have HT7 : Hid (Turn W (w6.setCell ⟨w.heap.size + 1 + 1, 0, none⟩ (.int .i64 ((k : Int) + 1))) (fun i => i = h ∨ i = w.heap.size + 1 + 1)) := Lib.hid ((HT6.out.mono (fun _ _ e => .inl e) : Turn W w6 (fun i => i = h ∨ i = w.heap.size + 1 + 1)).trans (Turn.setCell w6 _ _ (S := (· = w.heap.size + 1 + 1)) rfl) (fun _ _ e => .inr e))
      have hlr := HRL.out k (by have := HKN.out.1; omega) Q6.out
      have hlr2 := HRL.out (k + 1) (by have := HKN.out.1; omega) HLK2.out
      refine ⟨keeps_turn HT7.out (fun i e => by omega), HT7.out.mono (fun i _ e => by show ¬ (i = w4.heap.size ∨ i = w4.heap.size + 1); omega), ⟨turn_box Q1.out HT7.out (by omega), turn_box Q2.out HT7.out (by omega), ?_⟩, ?_, ?_, HLK2.out⟩
      · have := (turn_box Q3.out HT6.out (by omega)).set (.int .i64 ((k : Int) + 1))
        rw [show (((k + 1 : Nat) : Int)) = (k : Int) + 1 by omega]
        exact this
      · have hcc := cc_of_ur Q4.out HT6.out HU6.out (by rw [HRK2.out, hlr, hlr2])
        rw [HRK2.out] at hcc
        exact hcc.turn (Turn.setCell w6 _ _ (S := (· = w.heap.size + 1 + 1)) rfl) (by omega) (by omega)
      · exact turn_new (Q5.out.trans HT6.out (fun _ _ e => e)) (Turn.setCell w6 _ _ (S := (· = w.heap.size + 1 + 1)) rfl) (by omega)
    · have k1 : ((ln : Int) != (q2' : Int)) = true := bne_iff_ne.2 (fun e => hL (by omega))
      have HLB2 := Lib.hid (HLB.out hL)
      clear hL HRD HRK HLK HLB
      gi_wp2
      refine ⟨keeps_turn (Turn.setCell W _ _ (S := (· = w.heap.size + 1)) rfl) (fun i e => by omega), rfl, Q2.out.set _, turn_new Q5.out (Turn.setCell W _ _ (S := (· = w.heap.size + 1)) rfl) (by omega), HLB2.out⟩
  case done =>
    rintro D W hD ⟨⟨q1, q2, q3⟩, q4, q5, q6⟩ hK
    have hsz := HSZ.out
    have hgl := HGL.out
    rw [HRE.out] at q4
    have hMl : (cntsB n ps.flatten).length = n := by rw [← HRE.out]; exact HRL.out _ (Nat.le_refl _) q6
    have HLD := Lib.hid (HTWO.out q6)
    obtain ⟨M, hM⟩ : ∃ M, cntsB n ps.flatten = M := ⟨_, rfl⟩
    rw [hM] at q4 hMl HLD
    have c2 := q4.cells.2.2.1
    rw [hMl] at c2
    have f4 := q2.frozen
    have c4 := q2.cell
    have HEL : Hid (∀ j, j < n → W.cell? ⟨h, j, none⟩ = some (.int .u16 (M.getD j 0))) := Lib.hid (fun j hj => (q4.row j (by rw [hMl]; exact hj)).1)
    have Q2 := Lib.hid q2
    have Q4 := Lib.hid q4
    have Q5 := Lib.hid q5
    have hcap2 : ¬ cap < 2 := by omega
    -- how it ends
    have HFIN : Hid (∀ b : Bool, ((b = true ∧ (loadC size n ps).2 = 0 ∧ (loadC size n ps).1 = M) ∨ (b = false ∧ (loadC size n ps).2 = 4)) → FillX g h cap size n ps w (.returned (.bool b)) ((W.setCell ⟨w.heap.size + 1, 0, none⟩ (.bool b)).putObj D (.deferred none)) ∧
        Boxed ((W.setCell ⟨w.heap.size + 1, 0, none⟩ (.bool b)).putObj D (.deferred none)) (w.heap.size + 1) 4 (.bool b) ∧ (W.setCell ⟨w.heap.size + 1, 0, none⟩ (.bool b)).heap[D]? = some (.deferred (some []))) := Lib.hid (fun b hbb => by
      have t1 := Turn.setCell W ⟨w.heap.size + 1, 0, none⟩ (.bool b) (S := (· = w.heap.size + 1)) rfl
      have t2 := Turn.of_grown (grownBy_putObj' (W.setCell ⟨w.heap.size + 1, 0, none⟩ (.bool b)) D (.deferred none)) (S := (· = D)) (fun i e _ => by cases e; rfl)
      have t3 := turn_new (turn_new Q5.out t1 (by omega)) t2 (by omega)
      have hDlt : D < W.heap.size := (Array.getElem?_eq_some_iff.1 hK).1
      refine ⟨⟨t3, ?_⟩, turn_box (Q2.out.set _) t2 (by show ¬ w.heap.size + 1 = D; omega), (t1.block D hDlt (by show ¬ D = w.heap.size + 1; omega)).trans hK⟩
      rcases hbb with ⟨rfl, h2, h3⟩ | ⟨rfl, h2⟩
      · exact .inl ⟨rfl, h2, by rw [h3]; exact (Q4.out.turn t1 (by show ¬ g = w.heap.size + 1; omega) (by show ¬ h = w.heap.size + 1; omega)).turn t2 (by show ¬ g = D; omega) (by show ¬ h = D; omega)⟩
      · exact .inr ⟨rfl, h2⟩)
    clear q1 q2 q3 q4 q5 q6 hM
    gi_wp2
    go_wp2
    go_loopw [43] (fun si wr => ∃ k : Nat, k ≤ 2 ∧ si = .int .i64 k ∧ Hid (∀ j, j < k → M.getD j 0 = 1) ∧ W = wr) (fun si _ => 2 - (intOf si).toNat)
    case atStart => exact ⟨0, by omega, rfl, Lib.hid (fun j hj => by omega), rfl⟩
    case round =>
      obtain ⟨k, hk, rfl, HK1, rfl⟩ := hrel
      by_cases hlt : k < 2
      · have hq : decide (k < 2) = true := decide_eq_true hlt
        have hq2 : decide ((k : Int) < 2) = true := decide_eq_true (by omega)
        have hcell := HEL.out k (by omega)
        by_cases h1 : M.getD k 0 = 1
        · have HK2 : Hid (∀ j, j < k + 1 → M.getD j 0 = 1) := Lib.hid (fun j hj => by
            by_cases e : j = k
            · rw [e]; exact h1
            · exact HK1.out j (by omega))
          rw [h1] at hcell
          clear HK1 h1
          go_wp2
          go_roundw
          case rel => exact ⟨k + 1, by omega, by go_num, HK2, trivial⟩
          case measure => simp [intOf]; omega
        · have HBD : Hid ((loadC size n ps).2 = 4) := Lib.hid (by
            rw [HLD.out, if_pos]
            rcases (show k = 0 ∨ k = 1 by omega) with rfl | rfl
            · exact .inl h1
            · exact .inr h1)
          obtain ⟨hF, hB4, hD4⟩ := HFIN.out false (.inr ⟨rfl, HBD.out⟩)
          have HF := Lib.hid hF
          obtain ⟨x, hx⟩ : ∃ x, M.getD k 0 = x := ⟨_, rfl⟩
          rw [hx] at h1 hcell
          have k1 : (x != 1) = true := bne_iff_ne.2 h1
          clear hx h1 HK1 hF
          go_wp2
          refine ⟨by simp, .inl ⟨_, _, rfl, run_takeDeferred hD4, ?_⟩⟩
          refine ⟨_, results_box rfl _ _ _ _ rfl hB4, ?_⟩
          exact HF.out
      · have hq : decide (k < 2) = false := decide_eq_false hlt
        have hq2 : decide ((k : Int) < 2) = false := decide_eq_false (by omega)
        obtain rfl : k = 2 := by omega
        have hgd : loadC size n ps = (M, 0) := by rw [HLD.out, if_neg (by rw [HK1.out 0 (by omega), HK1.out 1 (by omega)]; rintro (e | e) <;> exact e rfl)]
        obtain ⟨hF, hB4, hD4⟩ := HFIN.out true (.inl ⟨rfl, by rw [hgd], by rw [hgd]⟩)
        have HF := Lib.hid hF
        clear hgd HK1 hF
        go_wp2
        refine ⟨by simp, .inl ⟨_, _, rfl, run_takeDeferred hD4, ?_⟩⟩
        refine ⟨_, results_box rfl _ _ _ _ rfl hB4, ?_⟩
        exact HF.out
end Go.Proofs.Ytkinmcnmdfpjbaa.Cn
namespace Go.Proofs.Ytkinmcnmdfpjbaa.Cn
open Go.RowKit Bs Dv Gr
open Su (GeoOk pagesF)

/-- What Load hands back. -/
def LoadX (w : World) (size blocks : Int) (ps : List (List Int)) (e : Ending) (w' : World) : Prop :=
  w.grownBy w' none ∧ ((¬ GeoOk size blocks ∧ e = .returned (.tuple #[.pointer none, .int .i64 2])) ∨ ∃ n : Nat, blocks = n ∧ GeoOk size n ∧
    (((loadC size n ps).2 = 4 ∧ e = .returned (.tuple #[.pointer none, .int .i64 4])) ∨
     ((loadC size n ps).2 = 0 ∧ ∃ g h cap, e = .returned (.tuple #[.pointer (some ⟨g, 0, none⟩), .int .i64 0]) ∧ CC w' g h cap size (loadC size n ps).1 ∧ w.heap.size ≤ g ∧ w.heap.size ≤ h)))
theorem load_count {size : Int} {n : Nat} (h : GeoOk size n) {ps : List (List Int)} (hp : (ps.length : Int) ≠ pagesF size n) : loadC size n ps = ([], 4) := by
  unfold loadC
  rw [if_neg (fun k => k h), if_pos hp]

set_option maxHeartbeats 2000000 in
theorem load_any (size blocks : Int) (a : Option Addr) (m pc : Nat) (ps : List (List Int)) (w : World) (hs : Ss.Seg w a m pc ps) (hb : ∀ p ∈ ps, IsB p ∧ p.length ≤ 140737488355328) :
    Calls Try.prog 17 #[.agg #[.int .i64 size, .int .i64 blocks], .slice a m pc] w (LoadX w size blocks ps) := by
  obtain rfl : ps.length = m := hs.len
  have HB0 := Lib.hid (heap_alloc_new w (.cells #[.int .i64 size, .int .i64 blocks] 28))
  have HG0 := Lib.hid (grown_alloc w (.cells #[.int .i64 size, .int .i64 blocks] 28))
  obtain ⟨W0, hW0⟩ : ∃ X, w.alloc (.cells #[.int .i64 size, .int .i64 blocks] 28) = X := ⟨_, rfl⟩
  rw [hW0] at HB0 HG0
  have HW0 := Lib.hid hW0
  have hlm : (ps.length : Int) ≤ 9223372036854775807 := by
    have h1 := hs.le
    have h2 := hs.cap
    unfold maxLen at h2
    omega
  by_cases hok : GeoOk size blocks
  case neg =>
    have HNO := Lib.hid (new_no size blocks W0 hok)
    have HOK := Lib.hid hok
    clear hok hW0 hlm
    go_enter Try.func17, Try.ntmps17
    go_upto_region 1 with (fail)
    rw [HW0.out]
    have c0 : W0.cell? ⟨w.heap.size, 0, none⟩ = some (.int .i64 size) := by rw [cell_of_row _ _ _ _ _ _ HB0.out]; rfl
    have c1 : W0.cell? ⟨w.heap.size, 1, none⟩ = some (.int .i64 blocks) := by rw [cell_of_row _ _ _ _ _ _ HB0.out]; rfl
    go_wp2_with fail
    refine HNO.out.mono ?_
    rintro e w2 ⟨rfl, hg⟩
    have HF : Hid (LoadX w size blocks ps (.returned (.tuple #[.pointer none, .int .i64 2])) w2) := Lib.hid ⟨grown_then HG0.out hg, .inl ⟨HOK.out, rfl⟩⟩
    clear hg
    dsimp only
    go_wp2
    go_ret2
    exact HF.out
  case pos =>
  obtain ⟨n, rfl⟩ : ∃ n : Nat, blocks = n := Int.eq_ofNat_of_zero_le (by unfold GeoOk at hok; omega)
  have HNW := Lib.hid (fun W (k : W0.grownBy W none) => new_yes size n W0 W k hok)
  have HPG := Lib.hid (fun W => Su.pages_any size n W)
  have hpb := Su.pages_bounds hok
  have hpp := (pages_pieces hok (List.replicate n 0) (by rw [List.length_replicate])).2
  have HLC := Lib.hid (fun (q : (ps.length : Int) ≠ pagesF size n) => load_count (ps := ps) hok q)
  have HS := Lib.hid (hs.grown HG0.out)
  have HLT : Hid (0 < ps.length → ∀ ad, a = some ad → ad.block < W0.heap.size) := Lib.hid (fun h0 ad had => by
    have h1 := HS.out.at_ ad had 0 _ (by rw [List.getElem?_map, List.getElem?_eq_getElem (by omega)]; rfl)
    have h2 := World.block_lt_of_cell? W0 _ h1
    rwa [block_add] at h2)
  have HFI := Lib.hid (fun g h cap W (k : CC W g h cap size (newC n)) (s : Ss.Seg W a ps.length pc ps) (q : ps.length = piecesC n (eachC size)) r => fill_any g h cap size n (newC n) a pc ps W k (new_ok hok).len hok s hb q r)
  have HOK := Lib.hid hok
  have HPP := Lib.hid hpp
  have hpos : 0 < piecesC n (eachC size) := (pieces_lt n _ 0 (by have := (each_pos hok).1; omega)).2 (by unfold GeoOk at hok; omega)
  have HPOS := Lib.hid hpos
  obtain ⟨P, hP⟩ : ∃ P, pagesF size n = P := ⟨_, rfl⟩
  rw [hP] at HPG HLC HPP
  clear hok hW0 hs hb hP hpp hpb hpos
  go_enter Try.func17, Try.ntmps17
  go_upto_region 1 with (fail)
  rw [HW0.out]
  have c0 : W0.cell? ⟨w.heap.size, 0, none⟩ = some (.int .i64 size) := by rw [cell_of_row _ _ _ _ _ _ HB0.out]; rfl
  have c1 : W0.cell? ⟨w.heap.size, 1, none⟩ = some (.int .i64 (n : Int)) := by rw [cell_of_row _ _ _ _ _ _ HB0.out]; rfl
  go_wp2_with fail
  refine (HNW.out _ (grown_refl _)).mono ?_
  rintro e w2 ⟨g, h, cap, rfl, hc, hg, hlg, hlh⟩
  have HC2 := Lib.hid hc
  have HB2 := Lib.hid (block_old HB0.out hg)
  have HS2 := Lib.hid (HS.out.grown hg)
  have HL2 := Lib.hid (⟨hlg, hlh⟩ : W0.heap.size ≤ g ∧ W0.heap.size ≤ h)
  have d0 : w2.cell? ⟨w.heap.size, 0, none⟩ = some (.int .i64 size) := by rw [cell_of_row _ _ _ _ _ _ HB2.out]; rfl
  have d1 : w2.cell? ⟨w.heap.size, 1, none⟩ = some (.int .i64 (n : Int)) := by rw [cell_of_row _ _ _ _ _ _ HB2.out]; rfl
  clear hc hg hlg hlh c0 c1
  dsimp only
  go_wp2_with fail
  refine (HPG.out _).mono ?_
  rintro e w3 ⟨rfl, hg⟩
  have HC3 := Lib.hid (HC2.out.old hg)
  have HS3 := Lib.hid (HS2.out.grown hg)
  clear hg d0 d1 HC2 HS2 HB2
  dsimp only
  by_cases hpq : (ps.length : Int) = P
  · have k1 : ((ps.length : Int) != P) = false := by rw [hpq]; simp
    have HEQ : Hid (ps.length = piecesC n (eachC size)) := Lib.hid (by have := HPP.out; omega)
    have HFC := Lib.hid (HFI.out g h cap w3 HC3.out.cc HS3.out HEQ.out (fun ad had e => by have h1 := HLT.out (by rw [HEQ.out]; exact HPOS.out) ad had; have h2 := HL2.out.2; omega))
    obtain ⟨ln, hln⟩ : ∃ l, ps.length = l := ⟨_, rfl⟩
    rw [hln] at HFC k1 hpq hlm ⊢
    clear hln hpq
    go_wp2_with fail
    refine HFC.out.mono ?_
    rintro e w4 ⟨ht, ⟨rfl, h0, hcc⟩ | ⟨rfl, h4⟩⟩
    · have HF : Hid (LoadX w size n ps (.returned (.tuple #[.pointer (some ⟨g, 0, none⟩), .int .i64 0])) w4) := Lib.hid ⟨grown_then HG0.out (grown_put HC3.out.gr ht HL2.out.2), .inr ⟨n, rfl, HOK.out, .inr ⟨h0, g, h, cap, rfl, hcc, Nat.le_trans HG0.out.size HL2.out.1, Nat.le_trans HG0.out.size HL2.out.2⟩⟩⟩
      clear ht h0 hcc
      dsimp only
      go_wp2
      go_ret2
      exact HF.out
    · have HF : Hid (LoadX w size n ps (.returned (.tuple #[.pointer none, .int .i64 4])) w4) := Lib.hid ⟨grown_then HG0.out (grown_put HC3.out.gr ht HL2.out.2), .inr ⟨n, rfl, HOK.out, .inl ⟨h4, rfl⟩⟩⟩
      clear ht h4
      dsimp only
      go_wp2
      go_ret2
      exact HF.out
  · have k1 : ((ps.length : Int) != P) = true := bne_iff_ne.2 hpq
    have HF : Hid (LoadX w size n ps (.returned (.tuple #[.pointer none, .int .i64 4])) w3) := Lib.hid ⟨grown_then HG0.out HC3.out.gr, .inr ⟨n, rfl, HOK.out, .inl ⟨by rw [HLC.out hpq], rfl⟩⟩⟩
    obtain ⟨ln, hln⟩ : ∃ l, ps.length = l := ⟨_, rfl⟩
    rw [hln] at k1 hpq hlm ⊢
    clear hln hpq
    go_wp2
    go_ret2
    exact HF.out
end Go.Proofs.Ytkinmcnmdfpjbaa.Cn
