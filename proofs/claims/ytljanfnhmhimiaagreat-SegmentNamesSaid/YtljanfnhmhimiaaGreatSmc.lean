/-
  What the program's and the document's functions do, in memory and as plain functions: SgRCell, SgRBody, SgRPut, SgLaw, SgBackL, SgNamesN, SgNamesL, SgCoder, SgOne, SgGet1, SgRRead, SgCheck, SgPart.
-/
import Derived.Lib.SmallJoins
import Derived.Deep.RegionHeld3
import Derived.Deep.RegionWith
import Derived.Test.YtljanfnhmhimiaaGreatSmD
import Derived.Test.YtljanfnhmhimiaaGreatSmE
import Derived.Test.YtljanfnhmhimiaaGreatSmH
import Derived.Test.YtljanfnhmhimiaaGreatSmK
import Derived.Test.YtljanfnhmhimiaaGreatSmL
import Derived.Test.YtljanfnhmhimiaaGreatSmM
import Derived.Test.YtljanfnhmhimiaaGreatSmO
import Derived.Test.YtljanfnhmhimiaaGreatSmP
import Derived.Test.YtljanfnhmhimiaaGreatSmS
import Derived.Test.YtljanfnhmhimiaaGreatSmT
import Derived.Test.YtljanfnhmhimiaaGreatSmU
import Derived.Test.YtljanfnhmhimiaaGreatSmW
import Derived.Test.YtljanfnhmhimiaaGreatSmX
import Derived.Test.YtljanfnhmhimiaaGreatSmY
import Derived.Test.YtljanfnhmhimiaaGreatSma
import Derived.Test.YtljanfnhmhimiaaGreatSmb

namespace Go.Proofs.YtljanfnhmhimiaaGreat.Sg
open Go.RowKit Go.Joins Zn Zr
open Is (IsI info_i64)
open Bs (info_u8)

theorem own_keep {w w' : World} {base e s n : Nat} {v : Value} {xs : List Value} {o : Option Nat} (h : w.ownsRow base e s v n xs) (hg : w.grownBy w' o) (hne : ∀ g, v.ownBlock = some g → o ≠ some g) : w'.ownsRow base e s v n xs := by
  obtain ⟨hl, h⟩ := h
  refine ⟨hl, ?_⟩
  rcases h with ⟨rfl, h0⟩ | ⟨g, cap, cur, rfl, hb, hgg, rest⟩
  · exact .inl ⟨rfl, h0⟩
  · refine .inr ⟨g, cap, cur, rfl, hb, ?_, rest⟩
    rw [hg.block g (Array.getElem?_eq_some_iff.1 hgg).1 (fun e => hne g rfl e.symm)]
    exact hgg
theorem own_apart {w : World} {base e1 e2 s1 s2 n1 n2 : Nat} {v1 v2 : Value} {xs ys : List Value} (h1 : w.ownsRow base e1 s1 v1 n1 xs) (h2 : w.ownsRow base e2 s2 v2 n2 ys) (hne : e1 ≠ e2) : ∀ g, v1.ownBlock = some g → v2.ownBlock ≠ some g := by
  intro g e1' e2'
  rcases h1.2 with ⟨rfl, _⟩ | ⟨g1, cap1, cur1, rfl, _, hg1, _⟩
  · cases e1'
  · rcases h2.2 with ⟨rfl, _⟩ | ⟨g2, cap2, cur2, rfl, _, hg2, _⟩
    · cases e2'
    · obtain rfl : g1 = g := Option.some.inj e1'
      obtain rfl : g2 = g1 := Option.some.inj e2'
      rw [hg1] at hg2
      injection hg2 with hg2
      injection hg2 with _ h3 _
      exact hne h3
def intV (c : Cel) : Value := .int .i64 c.n
def bitV (c : Cel) : Value := .int .u64 (In.u c.n)
def strV (c : Cel) : Value := .string c.s
theorem map_snoc {f : Cel → Value} {l : List Cel} {k : Nat} (h : k < l.length) : (l.take (k + 1)).map f = (l.take k).map f ++ [f (l.getD k zeroC)] := by
  rw [take_snoc l k h, List.map_append]; rfl
theorem int_row (l : List Cel) : l.map intV = (l.map (·.n)).map (Value.int .i64) := by rw [List.map_map]; rfl
theorem bit_row (l : List Cel) : l.map bitV = (l.map fun c => In.u c.n).map (Value.int .u64) := by rw [List.map_map]; rfl
theorem str_row (l : List Cel) : l.map strV = (l.map fun c => nm c.s).map Ss.encW := by
  rw [List.map_map]
  refine List.map_congr_left fun c _ => ?_
  show Value.string c.s = Value.string (strOfNums (nm c.s))
  rw [str_nm]

end Go.Proofs.YtljanfnhmhimiaaGreat.Sg

namespace Go.Proofs.YtljanfnhmhimiaaGreat.Sg
open Go.RowKit Go.Joins Zn Zr
open Is (IsI info_i64)
open Bs (info_u8)
open Nu (roomF encN cnt)

theorem some_take {l : List Cel} {k : Nat} (h : k < l.length) : someL (l.take (k + 1)) = if (l.getD k zeroC).k = 0 then someL (l.take k) else someL (l.take k) ++ [l.getD k zeroC] := by
  rw [take_snoc l k h, some_app, some_cons]
  by_cases e : (l.getD k zeroC).k = 0
  · rw [if_pos e, if_pos e, show someL [] = [] from rfl, List.append_nil]
  · rw [if_neg e, if_neg e, show someL [] = [] from rfl]
/-- a literal of one cell -/
theorem cell_lit (W : World) (x : Cel) : ∀ (j : Nat) (u : Value), (flatC [x])[j]? = some u → (W.alloc (.cells #[.int .i64 x.k, .int .i64 x.n, .string x.s] 24)).cell? ((⟨W.heap.size, 0, none⟩ : Addr).add j) = some u := by
  have h := (CSeg.lit W [x] (by simp)).at_ _ rfl
  exact h
theorem cseg_row {w : World} {base m : Nat} {v : Value} {l : List Cel} (h : w.ownsRow base 24 3 v m (flatC l)) (hl : l.length = m) : ∃ a c, v = .slice a m c ∧ CSeg w a m c l := by
  rcases h.2 with ⟨rfl, h0⟩ | ⟨g, cap, cur, rfl, _⟩
  · subst h0
    obtain rfl : l = [] := List.length_eq_zero_iff.1 hl
    exact ⟨none, 0, rfl, CSeg.nil w⟩
  · exact ⟨_, _, rfl, CSeg.own h⟩
theorem own_grow {w w' : World} {base e s n : Nat} {v : Value} {xs : List Value} (h : w.ownsRow base e s v n xs) (k : w.grownBy w' none) : w'.ownsRow base e s v n xs := own_keep h k (fun _ _ e => by cases e)
theorem celok_bit {kind : Int} {c : Cel} (h : CelOk kind c) : c.k = 2 → 0 ≤ c.n ∧ c.n < 256 := fun e => by
  rcases cell_form h.ok with q | q | q | q
  · omega
  · omega
  · have := q.2.1; omega
  · omega
theorem cellB_len {kind : Int} {c : Cel} (h : CelOk kind c) : (cellB c).length ≤ 65600 := by
  have hs := cell_len h.ok
  unfold cellB
  by_cases e1 : c.k = 1
  · rw [if_pos e1, In.num8_length]; omega
  · rw [if_neg e1]
    by_cases e2 : c.k = 2
    · rw [if_pos e2]; simp
    · rw [if_neg e2]
      have := Tx.strB_len (nm c.s)
      rw [nm_len] at this
      omega
theorem cseg_at {w : World} {base m c : Nat} {a : Option Addr} {l : List Cel} (h : w.ownsRow base 24 3 (.slice a m c) m (flatC l)) (hl : l.length = m) : CSeg w a m c l := by
  obtain ⟨a', c', e, hs⟩ := cseg_row h hl
  cases e
  exact hs
theorem body_len (kind : Int) {l : List Cel} (hl : l.length ≤ 4096) (h : ∀ c ∈ l, CelOk kind c) : (bodyS kind l).length ≤ 300000000 := by
  unfold bodyS
  by_cases e1 : kind = 1
  · rw [if_pos e1]
    have h1 := In.encB_len 1 (l.map (·.n)) (by rw [List.length_map]; exact hl)
    have h2 := In.encB_len 2 (l.map (·.n)) (by rw [List.length_map]; exact hl)
    have h3 := In.encB_len 3 (l.map (·.n)) (by rw [List.length_map]; exact hl)
    rw [In.best_len]
    omega
  · rw [if_neg e1]
    by_cases e2 : kind = 2
    · rw [if_pos e2]
      have := Pk.put_len (l.map (·.n)) 1
      omega
    · rw [if_neg e2]
      have hb : (Tx.bestT (l.map fun c => nm c.s)).length ≤ (Tx.plainT (l.map fun c => nm c.s)).length := by
        unfold Tx.bestT
        split <;> omega
      have hs := Tx.strsB_len (l.map fun c => nm c.s) (fun s hs => by
        obtain ⟨c, hc, rfl⟩ := List.mem_map.1 hs
        rw [nm_len]
        exact cell_len (h c hc).ok)
      have hv := Oct.varB_le 9 ((l.map fun c => nm c.s).length : Int)
      unfold Tx.plainT at hb
      rw [List.length_cons, List.length_append] at hb
      rw [List.length_map] at hs hv hb
      have h4 : l.length * 65546 ≤ 4096 * 65546 := Nat.mul_le_mul_right _ hl
      omega
end Go.Proofs.YtljanfnhmhimiaaGreat.Sg

namespace Go.Proofs.YtljanfnhmhimiaaGreat.Sg
open Go.RowKit Go.Joins Zn Zr
open Nu (encN)

theorem cell_isB {c : Cel} (hi : c.k = 2 → 0 ≤ c.n ∧ c.n < 256) (hs : c.s.size ≤ 65536) : Oct.IsB (cellB c) := by
  unfold cellB
  by_cases e1 : c.k = 1
  · rw [if_pos e1]; exact In.num8_isB _
  · rw [if_neg e1]
    by_cases e2 : c.k = 2
    · rw [if_pos e2]
      intro x hx
      obtain rfl : x = c.n := by simpa using hx
      exact hi e2
    · rw [if_neg e2]
      exact Tx.strB_isB (nm_isB _) (by rw [nm_len]; omega)
theorem body_isB (kind : Int) {l : List Cel} (hl : l.length ≤ 4096) (h : ∀ c ∈ l, CelOk kind c) : Oct.IsB (bodyS kind l) := by
  unfold bodyS
  by_cases e1 : kind = 1
  · rw [if_pos e1]
    rcases In.best_cases (l.map (·.n)) with e | e | e <;> rw [e]
    · exact In.encB_isB 1 _ (by omega) (by rw [List.length_map]; omega)
    · exact In.encB_isB 2 _ (by omega) (by rw [List.length_map]; omega)
    · exact In.encB_isB 3 _ (by omega) (by rw [List.length_map]; omega)
  · rw [if_neg e1]
    by_cases e2 : kind = 2
    · rw [if_pos e2]; exact (Pk.put_isB _ _).isB
    · rw [if_neg e2]
      have hO : Tx.OkT (l.map fun c => nm c.s) := ⟨by rw [List.length_map]; exact hl, fun s hs => by
        obtain ⟨c, hc, rfl⟩ := List.mem_map.1 hs
        rw [nm_len]
        exact cell_len (h c hc).ok⟩
      have hA : Tx.AllB (l.map fun c => nm c.s) := fun s hs => by
        obtain ⟨c, hc, rfl⟩ := List.mem_map.1 hs
        exact nm_isB _
      unfold Tx.bestT
      split
      · exact Tx.dict_isB' hO hA
      · exact Tx.plain_isB' hO hA
theorem enc_isB {kind : Int} {l : List Cel} (h : Col kind l) : Oct.IsB (encS kind l) := by
  have k1 := h.k1
  have k3 := h.k3
  unfold encS
  intro x hx
  rcases List.mem_cons.1 hx with rfl | hx
  · omega
  · rcases List.mem_append.1 hx with hx | hx
    · exact Nu.enc_isB (by rw [nulls_len]; have := h.few; omega) x hx
    · unfold tailS at hx
      by_cases hs : someL l = []
      · rw [if_pos hs] at hx; cases hx
      · rw [if_neg hs] at hx
        obtain ⟨o1, o2, _⟩ := min_of h hs
        rcases List.mem_append.1 hx with hx | hx
        · exact cell_isB (celok_bit o1) (cell_len o1.ok) x hx
        · rcases List.mem_append.1 hx with hx | hx
          · exact cell_isB (celok_bit o2) (cell_len o2.ok) x hx
          · exact body_isB kind (by have h1 := cnt_nulls l; have := h.few; omega) h.some x hx
/-! ### what the program's functions tell -/
def PutC : Prop := ∀ (kind : Int) (a : Option Addr) (n c : Nat) (l : List Cel) (w : World), CSeg w a n c l → IntOk l → StrsOk l → n ≤ 65536 →
  Calls Tryz.prog 11 #[.int .i64 kind, .slice a n c] w fun e w' => e = .returned (.tuple #[.string (strOfNums (putS kind l).2), .int .i64 (putS kind l).1]) ∧ w.grownBy w' none
/-- Get's answer: kind, cells, error -/
def outS (s : List Int) : Int × List Cel × Int := match getS s with
  | some (k, l) => (k, l, 0)
  | none => (0, [], 4)
def GetC : Prop := ∀ (s : List Int) (w : World), Bs.IsB s → s.length ≤ 100000000 → Calls Tryz.prog 12 #[.string (strOfNums s)] w fun e w' =>
  ∃ a c, e = .returned (.tuple #[.int .i64 (outS s).1, .slice a (outS s).2.1.length c, .int .i64 (outS s).2.2]) ∧ CSeg w' a (outS s).2.1.length c (outS s).2.1 ∧ w.grownBy w' none
def ZoneC : Prop := ∀ (s : List Int) (w : World), Bs.IsB s → s.length ≤ 100000000 → Calls Tryz.prog 13 #[.string (strOfNums s)] w fun e w' =>
  e = .returned (.tuple #[.int .i64 (zoneS s).1, .agg #[.int .i64 (zoneS s).2.1.cnt, .int .i64 (zoneS s).2.1.nul, .int .i64 (zoneS s).2.1.min.k, .int .i64 (zoneS s).2.1.min.n, .string (zoneS s).2.1.min.s, .int .i64 (zoneS s).2.1.max.k, .int .i64 (zoneS s).2.1.max.n, .string (zoneS s).2.1.max.s], .int .i64 (zoneS s).2.2]) ∧ w.grownBy w' none

def l2 : List Cel := [⟨2, 1, ⟨#[]⟩⟩, zeroC]
theorem put_l2 : putS 2 l2 = (0, [2, 2, 2, 2, 1, 1, 1]) := by decide +kernel
set_option maxRecDepth 100000 in
set_option maxHeartbeats 2000000 in
theorem lives_any (HP : PutC) (w : World) : Calls Tryz.prog 9 #[] w fun e w' => e = .returned (.bool true) ∧ w.grownBy w' none := by
  have hl : CSeg (w.alloc (.cells #[.int .i64 2, .int .i64 1, .string ⟨#[]⟩, .int .i64 0, .int .i64 0, .string ⟨#[]⟩] 24)) (some ⟨w.heap.size, 0, none⟩) 2 2 l2 := CSeg.lit w l2 (by decide)
  have hp := HP 2 _ 2 2 l2 _ hl (fun x hx => by
    rcases List.mem_cons.1 hx with rfl | hx
    · decide
    · obtain rfl : x = zeroC := by simpa using hx
      decide) (fun x hx => by
    rcases List.mem_cons.1 hx with rfl | hx
    · show (0 : Nat) ≤ 140737488355328; omega
    · obtain rfl : x = zeroC := by simpa using hx
      show (0 : Nat) ≤ 140737488355328; omega) (by decide)
  rw [put_l2] at hp
  obtain ⟨S, hS⟩ : ∃ S, S = strOfNums [2, 2, 2, 2, 1, 1, 1] := ⟨_, rfl⟩
  have hp2 := hp.mono fun e w' (h : _ ∧ _) => (show e = .returned (.tuple #[.string S, .int .i64 0]) ∧ (w.alloc (.cells #[.int .i64 2, .int .i64 1, .string ⟨#[]⟩, .int .i64 0, .int .i64 0, .string ⟨#[]⟩] 24)).grownBy w' none from ⟨by rw [h.1, hS], h.2⟩)
  have q1 : (S.toList == ([2, 2, 2, 2, 1, 1, 1] : List UInt8)) = true := by rw [hS, Go.ByteArray.toList_eq]; decide +kernel
  have HPP := Lib.hid hp2
  clear hp hp2 hl hS HP
  go_enter Tryz.func9, Tryz.ntmps9
  go_wp2_with fail
  refine HPP.out.mono ?_
  rintro e w1 ⟨rfl, hg⟩
  have G1 := Lib.hid (grown_then (grown_alloc w _) hg)
  clear hg HPP
  dsimp only
  go_wp2
  go_ret
  exact ⟨rfl, G1.out⟩
end Go.Proofs.YtljanfnhmhimiaaGreat.Sg

namespace Go.Proofs.YtljanfnhmhimiaaGreat.Sg
open Go.RowKit Bs Dv Zn

theorem num10_any (n : Int) (w : World) : Calls Tryz.prog 10 #[.int .i64 n] w fun e w' => e = .returned (.agg #[.int .i64 1, .int .i64 n, .string ⟨#[]⟩]) ∧ w.grownBy w' none := by
  go_enter Tryz.func10, Tryz.ntmps10
  go_wp2
  refine bodyPost_ret (v := .agg #[.int .i64 1, .int .i64 n, .string ⟨#[]⟩]) (run_results_row rfl _ _ w.heap.size _ _ (0, 0) _ rfl (heap_alloc_new _ _) Tryz.underlying24 rfl info_cell2) rfl ⟨rfl, grown_alloc _ _⟩
/-- the example's cells, their segment, the same with its last bytes struck over -/
def cL : List Cel := [⟨1, 5, ⟨#[]⟩⟩, zeroC, ⟨1, -1, ⟨#[]⟩⟩]
def cE : List Int := [1, 3, 2, 2, 255, 255, 255, 255, 255, 255, 255, 255, 5, 0, 0, 0, 0, 0, 0, 0, 3, 2, 255, 255, 255, 255, 255, 255, 255, 255, 3, 6]
def cF : List Int := [1, 3, 2, 2, 255, 255, 255, 255, 255, 255, 255, 255, 5, 0, 0, 0, 0, 0, 0, 0, 3, 2, 255, 255, 255, 255, 255, 255, 255, 63, 63, 63]
def cB : List Int := [1, 1, 0, 5, 0, 0, 0, 0, 0, 0, 0, 4, 0, 0, 0, 0, 0, 0, 0]
theorem nm_put : putS 1 cL = (0, cE) := by decide +kernel
theorem nm_get : outS cE = (1, cL, 0) := by kernel_rfl
theorem nm_zone : zoneS cF = (1, ⟨3, 1, ⟨1, -1, ⟨#[]⟩⟩, ⟨1, 5, ⟨#[]⟩⟩⟩, 0) := by kernel_rfl
theorem nm_bad : outS cF = (0, [], 4) := by kernel_rfl
theorem nm_none : putS 3 [zeroC, zeroC] = (0, [3, 2, 1]) := by decide +kernel
theorem nm_zone2 : zoneS [3, 2, 1] = (3, ⟨2, 2, zeroC, zeroC⟩, 0) := by kernel_rfl
theorem nm_arg : putS 0 [] = (2, []) := by decide +kernel
theorem nm_kind : putS 1 [⟨2, 0, ⟨#[]⟩⟩] = (11, []) := by decide +kernel
theorem nm_nine : putS 1 [⟨9, 0, ⟨#[]⟩⟩] = (2, []) := by decide +kernel
theorem nm_long : putS 1 (List.replicate 4097 zeroC) = (3, []) := by decide +kernel
theorem nm_order : zoneS cB = (0, zeroZ, 4) := by kernel_rfl
theorem nm_more : outS [3, 2, 1, 97] = (0, [], 4) := by kernel_rfl
theorem nm_cut : (strOfNums cE).extract 0 29 ++ ⟨#[63, 63, 63]⟩ = strOfNums cF := by decide +kernel
theorem nm_app : strOfNums [3, 2, 1] ++ ⟨#[97]⟩ = strOfNums [3, 2, 1, 97] := by decide +kernel
theorem nm_size : (strOfNums cE).size = 32 := by decide +kernel
theorem nm_ord : strOfNums cB = ⟨#[1, 1, 0, 5, 0, 0, 0, 0, 0, 0, 0, 4, 0, 0, 0, 0, 0, 0, 0]⟩ := by decide +kernel
end Go.Proofs.YtljanfnhmhimiaaGreat.Sg

namespace Go.Proofs.YtljanfnhmhimiaaGreat.Sg
open Go.RowKit Go.Joins Bs Dv Zn Zr

/-- the calls' contracts at the example's own arguments -/
theorem cl_put (HP : PutC) (kind : Int) (l : List Cel) (E : Int) (B : List Int) (hi : IntOk l) (ho : StrsOk l) (hl : l.length ≤ 65536) (he : putS kind l = (E, B)) (a : Option Addr) (n c : Nat) (W : World) (hs : CSeg W a n c l) :
    Calls Tryz.prog 11 #[.int .i64 kind, .slice a n c] W fun e w' => e = .returned (.tuple #[.string (strOfNums B), .int .i64 E]) ∧ W.grownBy w' none := by
  have h := HP kind a n c l W hs hi ho (by rw [← hs.len]; exact hl)
  rw [he] at h
  exact h
theorem cl_get (HG : GetC) (s : List Int) (k : Int) (l : List Cel) (E : Int) (n : Nat) (hb : Bs.IsB s) (hl : s.length ≤ 100000000) (he : outS s = (k, l, E)) (hn : l.length = n) (W : World) :
    Calls Tryz.prog 12 #[.string (strOfNums s)] W fun e w' => ∃ a c, e = .returned (.tuple #[.int .i64 k, .slice a n c, .int .i64 E]) ∧ CSeg w' a n c l ∧ W.grownBy w' none := by
  have h := HG s W hb hl
  rw [he] at h
  subst hn
  exact h
theorem cl_zone (HZ : ZoneC) (s : List Int) (k : Int) (z : Zon) (E : Int) (hb : Bs.IsB s) (hl : s.length ≤ 100000000) (he : zoneS s = (k, z, E)) (W : World) :
    Calls Tryz.prog 13 #[.string (strOfNums s)] W fun e w' => e = .returned (.tuple #[.int .i64 k, .agg #[.int .i64 z.cnt, .int .i64 z.nul, .int .i64 z.min.k, .int .i64 z.min.n, .string z.min.s, .int .i64 z.max.k, .int .i64 z.max.n, .string z.max.s], .int .i64 E]) ∧ W.grownBy w' none := by
  have h := HZ s W hb hl
  rw [he] at h
  exact h

set_option maxRecDepth 100000 in
set_option maxHeartbeats 8000000 in
theorem names_any (HP : PutC) (HG : GetC) (HZ : ZoneC) (w : World) : Calls Tryz.prog 3 #[] w fun e w' => e = .returned (.bool true) ∧ Below w.heap.size w w' := by
  obtain ⟨S, hS⟩ : ∃ S, S = strOfNums cE := ⟨_, rfl⟩
  obtain ⟨F, hF⟩ : ∃ S, S = strOfNums cF := ⟨_, rfl⟩
  obtain ⟨N, hN⟩ : ∃ S, S = strOfNums [3, 2, 1] := ⟨_, rfl⟩
  obtain ⟨M, hM⟩ : ∃ S, S = strOfNums [3, 2, 1, 97] := ⟨_, rfl⟩
  obtain ⟨zf, hzf⟩ : ∃ z, z = (⟨3, 1, ⟨1, -1, ⟨#[]⟩⟩, ⟨1, 5, ⟨#[]⟩⟩⟩ : Zon) := ⟨_, rfl⟩
  have HL := Lib.hid (fun W => lives_any HP W)
  have HN5 := Lib.hid (fun W => num10_any 5 W)
  have HN1 := Lib.hid (fun W => num10_any (-1) W)
  have HP1 := Lib.hid (cl_put HP 1 cL 0 cE (by unfold IntOk; decide) (by unfold StrsOk; decide +kernel) (by decide) nm_put)
  have HP2 := Lib.hid (cl_put HP 3 [zeroC, zeroC] 0 [3, 2, 1] (by unfold IntOk; decide) (by unfold StrsOk; decide +kernel) (by decide) nm_none)
  have HP3 := Lib.hid (cl_put HP 0 [] 2 [] (by unfold IntOk; decide) (by unfold StrsOk; decide +kernel) (by decide) nm_arg)
  have HP4 := Lib.hid (cl_put HP 1 [⟨2, 0, ⟨#[]⟩⟩] 11 [] (by unfold IntOk; decide) (by unfold StrsOk; decide +kernel) (by decide) nm_kind)
  have HP5 := Lib.hid (cl_put HP 1 [⟨9, 0, ⟨#[]⟩⟩] 2 [] (by unfold IntOk; decide) (by unfold StrsOk; decide +kernel) (by decide) nm_nine)
  have HP6 := Lib.hid (cl_put HP 1 (List.replicate 4097 zeroC) 3 [] (fun x hx => by rw [List.eq_of_mem_replicate hx]; exact ⟨by decide, by decide⟩) (fun x hx => by rw [List.eq_of_mem_replicate hx]; show (0 : Nat) ≤ _; exact Nat.zero_le _) (by rw [List.length_replicate]; decide) nm_long)
  have HG1 := Lib.hid (cl_get HG cE 1 cL 0 3 (by unfold Bs.IsB; decide) (by decide) nm_get rfl)
  have HG2 := Lib.hid (cl_get HG cF 0 [] 4 0 (by unfold Bs.IsB; decide) (by decide) nm_bad rfl)
  have HG3 := Lib.hid (cl_get HG [3, 2, 1, 97] 0 [] 4 0 (by unfold Bs.IsB; decide) (by decide) nm_more rfl)
  have HZ1 := Lib.hid (cl_zone HZ cF 1 _ 0 (by unfold Bs.IsB; decide) (by decide) nm_zone)
  have HZ2 := Lib.hid (cl_zone HZ [3, 2, 1] 3 ⟨2, 2, ⟨0, 0, ⟨#[]⟩⟩, ⟨0, 0, ⟨#[]⟩⟩⟩ 0 (by unfold Bs.IsB; decide) (by decide) nm_zone2)
  have HZ3 := Lib.hid (cl_zone HZ cB 0 ⟨0, 0, ⟨0, 0, ⟨#[]⟩⟩, ⟨0, 0, ⟨#[]⟩⟩⟩ 4 (by unfold Bs.IsB; decide) (by decide) nm_order)
  have z32 := nm_size
  have cut := nm_cut
  have app := nm_app
  have z3 : (strOfNums [3, 2, 1]).size = 3 := strOfNums_size _
  rw [nm_ord] at HZ3
  rw [← hS] at HP1 HG1 z32 cut
  rw [← hF] at HG2 HZ1 cut
  have qN : ((strOfNums [3, 2, 1]).toList == (⟨#[3, 2, 1]⟩ : ByteArray).toList) = true := by decide +kernel
  have qN2 : ((strOfNums [3, 2, 1]).toList == ([3, 2, 1] : List UInt8)) = true := by rw [Go.ByteArray.toList_eq]; decide +kernel
  have qN3 : (strOfNums [3, 2, 1]).toList = (⟨#[3, 2, 1]⟩ : ByteArray).toList := by decide +kernel
  rw [← hN] at HP2 HZ2 app z3 qN qN2 qN3
  rw [← hM] at HG3 app
  rw [show strOfNums ([] : List Int) = ⟨#[]⟩ from rfl] at HP3 HP4 HP5 HP6
  clear HP HG HZ hS hF hN hM
  have hmk : ∀ W, (Instr.makeSlice 26 (.int .i64 4097) (.int .i64 4097)).run Tryz.prog W = .ok (.slice (some ⟨W.heap.size, 0, none⟩) 4097 4097) (W.alloc (.cells (roomC 4097) 24)) := fun W => make_cells 4097 (by decide) W
  go_enter Tryz.func3, Tryz.ntmps3
  go_wp2_with fail
  refine (HL.out _).mono ?_
  rintro e wk ⟨rfl, hg⟩
  have GC := Lib.hid (hg)
  clear hg
  dsimp only
  go_wp2_with fail
  refine (HN5.out _).mono ?_
  rintro e wk ⟨rfl, hg⟩
  have GC := Lib.hid (grown_then GC.out hg)
  clear hg
  dsimp only
  go_wp2_with fail
  refine (HN1.out _).mono ?_
  rintro e wk ⟨rfl, hg⟩
  have GC := Lib.hid (grown_then GC.out hg)
  clear hg
  dsimp only
  go_wp2_with fail
  have hl : CSeg (wk.alloc (.cells #[.int .i64 1, .int .i64 5, .string ⟨#[]⟩, .int .i64 0, .int .i64 0, .string ⟨#[]⟩, .int .i64 1, .int .i64 (-1), .string ⟨#[]⟩] 24)) (some ⟨wk.heap.size, 0, none⟩) 3 3 cL := CSeg.lit wk cL (by decide)
  have GC := Lib.hid (grown_then GC.out (grown_alloc wk (.cells #[.int .i64 1, .int .i64 5, .string ⟨#[]⟩, .int .i64 0, .int .i64 0, .string ⟨#[]⟩, .int .i64 1, .int .i64 (-1), .string ⟨#[]⟩] 24)))
  refine (HP1.out _ 3 3 _ hl).mono ?_
  generalize wk.heap.size = gl0 at *
  rintro e wk ⟨rfl, hg⟩
  have GC := Lib.hid (grown_then GC.out hg)
  have HSL := Lib.hid (hl.old hg)
  clear hl
  clear hg
  dsimp only
  go_wp2_with fail
  refine (HG1.out _).mono ?_
  rintro e wk ⟨am, cm, rfl, hsm, hg⟩
  have GC := Lib.hid (grown_then GC.out hg)
  have HSL := Lib.hid (HSL.out.old hg)
  have HSM := Lib.hid hsm
  clear hsm
  clear hg
  dsimp only
  go_wp2_with fail
  refine (HZ1.out _).mono ?_
  rintro e wk ⟨rfl, hg⟩
  have GC := Lib.hid (grown_then GC.out hg)
  have HSL := Lib.hid (HSL.out.old hg)
  have HSM := Lib.hid (HSM.out.old hg)
  clear hg
  dsimp only
  go_upto_region 9 with (fail)
  obtain ⟨W1, hW1⟩ : ∃ V, wk.alloc (.cells #[.int .i64 3, .int .i64 1, .int .i64 1, .int .i64 (-1), .string ⟨#[]⟩, .int .i64 1, .int .i64 5, .string ⟨#[]⟩] 33) = V := ⟨_, rfl⟩
  have hg : wk.grownBy W1 none := by rw [← hW1]; exact grown_alloc _ _
  have ZA : Hid (ZB W1 wk.heap.size ⟨3, 1, ⟨1, -1, ⟨#[]⟩⟩, ⟨1, 5, ⟨#[]⟩⟩⟩) := Lib.hid (by rw [← hW1]; exact ZB.new wk ⟨3, 1, ⟨1, -1, ⟨#[]⟩⟩, ⟨1, 5, ⟨#[]⟩⟩⟩)
  have GC : Hid (w.grownBy W1 none) := Lib.hid (grown_then GC.out hg)
  have HSL := Lib.hid (HSL.out.old hg)
  have HSM := Lib.hid (HSM.out.old hg)
  rw [hW1]
  clear hW1 hg
  generalize wk.heap.size = gza at *
  rename World => wk
  go_wp2_with fail
  refine (HG2.out _).mono ?_
  rintro e wk ⟨am2, cm2, rfl, -, hg⟩
  have GC := Lib.hid (grown_then GC.out hg)
  have HSL := Lib.hid (HSL.out.old hg)
  have HSM := Lib.hid (HSM.out.old hg)
  have ZA := Lib.hid (ZA.out.old hg)
  clear hg
  dsimp only
  go_wp2_with fail
  have hl : CSeg (wk.alloc (.cells #[.int .i64 0, .int .i64 0, .string ⟨#[]⟩, .int .i64 0, .int .i64 0, .string ⟨#[]⟩] 24)) (some ⟨wk.heap.size, 0, none⟩) 2 2 [zeroC, zeroC] := CSeg.lit wk [zeroC, zeroC] (by decide)
  have hg0 := grown_alloc wk (.cells #[.int .i64 0, .int .i64 0, .string ⟨#[]⟩, .int .i64 0, .int .i64 0, .string ⟨#[]⟩] 24)
  refine (HP2.out _ 2 2 _ hl).mono ?_
  rintro e wj ⟨rfl, hg1⟩
  have hg := grown_then hg0 hg1
  have GC := Lib.hid (grown_then GC.out hg)
  have HSL := Lib.hid (HSL.out.old hg)
  have HSM := Lib.hid (HSM.out.old hg)
  have ZA := Lib.hid (ZA.out.old hg)
  clear hg hg0 hg1 hl
  rename World => wk
  dsimp only
  go_wp2_with fail
  refine (HZ2.out _).mono ?_
  rintro e wk ⟨rfl, hg⟩
  have GC := Lib.hid (grown_then GC.out hg)
  have HSL := Lib.hid (HSL.out.old hg)
  have HSM := Lib.hid (HSM.out.old hg)
  have ZA := Lib.hid (ZA.out.old hg)
  clear hg
  dsimp only
  go_upto_region 12 with (fail)
  obtain ⟨W1, hW1⟩ : ∃ V, wk.alloc (.cells #[.int .i64 2, .int .i64 2, .int .i64 0, .int .i64 0, .string ⟨#[]⟩, .int .i64 0, .int .i64 0, .string ⟨#[]⟩] 33) = V := ⟨_, rfl⟩
  have hg : wk.grownBy W1 none := by rw [← hW1]; exact grown_alloc _ _
  have ZB2 : Hid (ZB W1 wk.heap.size ⟨2, 2, ⟨0, 0, ⟨#[]⟩⟩, ⟨0, 0, ⟨#[]⟩⟩⟩) := Lib.hid (by rw [← hW1]; exact ZB.new wk ⟨2, 2, ⟨0, 0, ⟨#[]⟩⟩, ⟨0, 0, ⟨#[]⟩⟩⟩)
  have GC : Hid (w.grownBy W1 none) := Lib.hid (grown_then GC.out hg)
  have HSL := Lib.hid (HSL.out.old hg)
  have HSM := Lib.hid (HSM.out.old hg)
  have ZA := Lib.hid (ZA.out.old hg)
  rw [hW1]
  clear hW1 hg
  generalize wk.heap.size = gzb at *
  rename World => wk
  go_wp2_with fail
  refine (HP3.out none 0 0 _ (CSeg.nil _)).mono ?_
  rintro e wk ⟨rfl, hg⟩
  have GC := Lib.hid (grown_then GC.out hg)
  have HSL := Lib.hid (HSL.out.old hg)
  have HSM := Lib.hid (HSM.out.old hg)
  have ZA := Lib.hid (ZA.out.old hg)
  have ZB2 := Lib.hid (ZB2.out.old hg)
  clear hg
  dsimp only
  go_wp2_with fail
  have hl : CSeg (wk.alloc (.cells #[.int .i64 2, .int .i64 0, .string ⟨#[]⟩] 24)) (some ⟨wk.heap.size, 0, none⟩) 1 1 [⟨2, 0, ⟨#[]⟩⟩] := CSeg.lit wk [⟨2, 0, ⟨#[]⟩⟩] (by decide)
  have hg0 := grown_alloc wk (.cells #[.int .i64 2, .int .i64 0, .string ⟨#[]⟩] 24)
  refine (HP4.out _ 1 1 _ hl).mono ?_
  rintro e wj ⟨rfl, hg1⟩
  have hg := grown_then hg0 hg1
  have GC := Lib.hid (grown_then GC.out hg)
  have HSL := Lib.hid (HSL.out.old hg)
  have HSM := Lib.hid (HSM.out.old hg)
  have ZA := Lib.hid (ZA.out.old hg)
  have ZB2 := Lib.hid (ZB2.out.old hg)
  clear hg hg0 hg1 hl
  rename World => wk
  dsimp only
  go_wp2_with fail
  have hl : CSeg (wk.alloc (.cells #[.int .i64 9, .int .i64 0, .string ⟨#[]⟩] 24)) (some ⟨wk.heap.size, 0, none⟩) 1 1 [⟨9, 0, ⟨#[]⟩⟩] := CSeg.lit wk [⟨9, 0, ⟨#[]⟩⟩] (by decide)
  have hg0 := grown_alloc wk (.cells #[.int .i64 9, .int .i64 0, .string ⟨#[]⟩] 24)
  refine (HP5.out _ 1 1 _ hl).mono ?_
  rintro e wj ⟨rfl, hg1⟩
  have hg := grown_then hg0 hg1
  have GC := Lib.hid (grown_then GC.out hg)
  have HSL := Lib.hid (HSL.out.old hg)
  have HSM := Lib.hid (HSM.out.old hg)
  have ZA := Lib.hid (ZA.out.old hg)
  have ZB2 := Lib.hid (ZB2.out.old hg)
  clear hg hg0 hg1 hl
  rename World => wk
  dsimp only
  go_wp2_with fail
  have hl := seg_cells 4097 (by decide) wk
  have hg0 := grown_alloc wk (.cells (roomC 4097) 24)
  refine (HP6.out _ 4097 4097 _ hl).mono ?_
  rintro e wj ⟨rfl, hg1⟩
  have hg := grown_then hg0 hg1
  have GC := Lib.hid (grown_then GC.out hg)
  have HSL := Lib.hid (HSL.out.old hg)
  have HSM := Lib.hid (HSM.out.old hg)
  have ZA := Lib.hid (ZA.out.old hg)
  have ZB2 := Lib.hid (ZB2.out.old hg)
  clear hg hg0 hg1 hl hmk
  rename World => wk
  dsimp only
  go_wp2_with fail
  refine (HZ3.out _).mono ?_
  rintro e wk ⟨rfl, hg⟩
  have GC := Lib.hid (grown_then GC.out hg)
  have HSL := Lib.hid (HSL.out.old hg)
  have HSM := Lib.hid (HSM.out.old hg)
  have ZA := Lib.hid (ZA.out.old hg)
  have ZB2 := Lib.hid (ZB2.out.old hg)
  clear hg
  dsimp only
  go_upto_region 17 with (fail)
  obtain ⟨W1, hW1⟩ : ∃ V, wk.alloc (.cells #[.int .i64 0, .int .i64 0, .int .i64 0, .int .i64 0, .string ⟨#[]⟩, .int .i64 0, .int .i64 0, .string ⟨#[]⟩] 33) = V := ⟨_, rfl⟩
  have hg : wk.grownBy W1 none := by rw [← hW1]; exact grown_alloc _ _
  have ZD : Hid (ZB W1 wk.heap.size zeroZ) := Lib.hid (by rw [← hW1]; exact ZB.new wk zeroZ)
  have GC : Hid (w.grownBy W1 none) := Lib.hid (grown_then GC.out hg)
  have HSL := Lib.hid (HSL.out.old hg)
  have HSM := Lib.hid (HSM.out.old hg)
  have ZA := Lib.hid (ZA.out.old hg)
  have ZB2 := Lib.hid (ZB2.out.old hg)
  rw [hW1]
  clear hW1 hg
  generalize wk.heap.size = gzd at *
  rename World => wk
  go_wp2_with fail
  refine (HG3.out _).mono ?_
  rintro e wk ⟨am3, cm3, rfl, -, hg⟩
  have GC := Lib.hid (grown_then GC.out hg)
  have HSL := Lib.hid (HSL.out.old hg)
  have HSM := Lib.hid (HSM.out.old hg)
  have ZA := Lib.hid (ZA.out.old hg)
  have ZB2 := Lib.hid (ZB2.out.old hg)
  have ZD := Lib.hid (ZD.out.old hg)
  clear hg
  dsimp only
  have hez1 : ∀ W, (binOp .eql 33 (.agg #[.int .i64 3, .int .i64 1, .int .i64 1, .int .i64 (-1), .string ⟨#[]⟩, .int .i64 1, .int .i64 5, .string ⟨#[]⟩]) (.agg #[.int .i64 3, .int .i64 1, .int .i64 1, .int .i64 (-1), .string ⟨#[]⟩, .int .i64 1, .int .i64 5, .string ⟨#[]⟩])).run Tryz.prog W = .ok (.bool true) W := fun W => by
    have h := eql_zone ⟨3, 1, ⟨1, -1, ⟨#[]⟩⟩, ⟨1, 5, ⟨#[]⟩⟩⟩ ⟨3, 1, ⟨1, -1, ⟨#[]⟩⟩, ⟨1, 5, ⟨#[]⟩⟩⟩ W
    rwa [eqZ_self] at h
  have hez2 : ∀ W, (binOp .eql 33 (.agg #[.int .i64 2, .int .i64 2, .int .i64 0, .int .i64 0, .string ⟨#[]⟩, .int .i64 0, .int .i64 0, .string ⟨#[]⟩]) (.agg #[.int .i64 2, .int .i64 2, .int .i64 0, .int .i64 0, .string ⟨#[]⟩, .int .i64 0, .int .i64 0, .string ⟨#[]⟩])).run Tryz.prog W = .ok (.bool true) W := fun W => by
    have h := eql_zone ⟨2, 2, zeroC, zeroC⟩ ⟨2, 2, zeroC, zeroC⟩ W
    rwa [eqZ_self] at h
  have HSQ : Hid (∀ q : Gw wk, Calls Tryz.prog 14 #[.slice am 3 cm, .slice (some ⟨gl0, 0, none⟩) 3 3] q.at_ fun e w' => e = .returned (.bool true) ∧ q.at_.grownBy w' none) := Lib.hid (fun q => by
    have h := csame_any am (some ⟨gl0, 0, none⟩) 3 3 cm 3 cL cL q.at_ (HSM.out.old q.grown) (HSL.out.old q.grown)
    rwa [show sameC cL cL = true from decide_eq_true rfl] at h)
  have HM1 : Hid (∀ q : Gw wk, Calls Tryz.prog 10 #[.int .i64 (-1)] q.at_ fun e w' => e = .returned (.agg #[.int .i64 1, .int .i64 (-1), .string ⟨#[]⟩]) ∧ q.at_.grownBy w' none) := Lib.hid (fun q => HN1.out q.at_)
  have HM5 : Hid (∀ q : Gw wk, Calls Tryz.prog 10 #[.int .i64 5] q.at_ fun e w' => e = .returned (.agg #[.int .i64 1, .int .i64 5, .string ⟨#[]⟩]) ∧ q.at_.grownBy w' none) := Lib.hid (fun q => HN5.out q.at_)
  obtain ⟨z0, z1, ⟨z2, z3, z4⟩, z5, z6, z7⟩ := ZA.out.gw
  obtain ⟨y0, y1, ⟨y2, y3, y4⟩, y5, y6, y7⟩ := ZB2.out.gw
  go_upto_region 18 with (fail)
  dsimp only [List.append]
  refine wp_region_grow (by kernel_rfl) ?_
  repeat (go_big_quiet_step (first | (go_at_call 14; with_reducible exact Calls.grow_of (HSQ.out _)) | (go_at_call 10; with_reducible exact Calls.grow_of (HM1.out _)) | (go_at_call 10; with_reducible exact Calls.grow_of (HM5.out _)) | fail))
  refine wpQuiet_nil ?_
  rintro _ ⟨p, rfl⟩
  have G10 := Lib.hid (grown_then GC.out p.grown)
  go_wp2
  go_ret
  exact ⟨rfl, below_of G10.out⟩
end Go.Proofs.YtljanfnhmhimiaaGreat.Sg

namespace Go.Proofs.YtljanfnhmhimiaaGreat.Sg
open Go.RowKit Go.Joins Zn Zr Dv

theorem info_I : (Tryz.prog.info? 99).map (·.size) = some 6 := by kernel_rfl
theorem wpList_store_I (b : Nat) {w : World} {ops : Array Oper} {rest : List Oper} {o : Oper} {a : Act} {Q : Exit → Act → World → Prop} (hgd : o.guard = none) (x y : Operand) (ho : o.op = .store 99 x y)
    (g : Nat) (hx : a.eval x = .pointer (some ⟨g, 0, none⟩)) (hy : a.eval y = .agg #[.func (.func 89) #[] #[], .func (.func 90) #[] #[], .func (.func 91) #[] #[], .func (.func 93) #[] #[], .func (.func 95) #[] #[], .func (.func 140) #[] #[.pointer (some ⟨b, 0, none⟩)]]) (old : Array Value) (hg : w.heap[g]? = some (.cells old 99 (0, 0))) (hold : old.size = 6)
    (h : ∀ w', w'.heap[g]? = some (.cells #[.func (.func 89) #[] #[], .func (.func 90) #[] #[], .func (.func 91) #[] #[], .func (.func 93) #[] #[], .func (.func 95) #[] #[], .func (.func 140) #[] #[.pointer (some ⟨b, 0, none⟩)]] 99 (0, 0)) → Turn w w' (· = g) → wpList Tryz.prog ops Q rest (a.put o.dst undef) w') : wpList Tryz.prog ops Q (o :: rest) a w := by
  refine wpList_store_row hgd _ x y ho g _ hx hy _ _ hg info_I hold (by simp [Value.oneCell']) ?_
  exact h _ (setRow_heap w g _ _ _ _ hg) ⟨rfl, rfl, rfl, by simp [World.setRow], fun k _ hk => setRow_other w g k _ hk⟩
/-- the box that holds the library's function -/
def BoxI (w : World) (b : Nat) : Prop := w.heap[b]? = some (.cells #[.func (.func 97) #[] #[]] 140 (0, 0))
theorem BoxI.old {w w' : World} {b : Nat} (h : BoxI w b) (k : Turn w w' nowhere) : BoxI w' b := block_old h k.grown
theorem BoxI.cell {w : World} {b : Nat} (h : BoxI w b) : w.cell? ⟨b, 0, none⟩ = some (.func (.func 97) #[] #[]) := by
  unfold BoxI at h
  rw [cell_of_row _ _ _ _ _ _ h]; rfl
/-- a coder made -/
def MadeI (w : World) (e : Ending) (w' : World) : Prop := ∃ b, e = .returned (.agg #[.func (.func 89) #[] #[], .func (.func 90) #[] #[], .func (.func 91) #[] #[], .func (.func 93) #[] #[], .func (.func 95) #[] #[], .func (.func 140) #[] #[.pointer (some ⟨b, 0, none⟩)]]) ∧ BoxI w' b ∧ Turn w w' nowhere
set_option maxHeartbeats 1000000 in
theorem codec_I (w : World) : Calls Tryz.prog 53 #[] w (MadeI w) := by
  have q := Lib.hid (heap_alloc_new w (.cells #[.nilFunc, .nilFunc, .nilFunc, .nilFunc, .nilFunc, .nilFunc] 99))
  have HX := Lib.hid (fun W => exactly_I W)
  go_enter Tryz.func53, Tryz.ntmps53
  go_wp2_with fail
  refine (HX.out _).mono ?_
  rintro e w1 ⟨rfl, hw1⟩
  have hb : BoxI w1 (w.alloc (.cells #[.nilFunc, .nilFunc, .nilFunc, .nilFunc, .nilFunc, .nilFunc] 99)).heap.size := by rw [hw1]; exact heap_alloc_new _ _
  have ht : Turn w w1 nowhere := by rw [hw1]; exact (Turn.alloc w _ nowhere).trans (Turn.alloc _ _ nowhere) (fun _ _ h => h)
  have hq : w1.heap[w.heap.size]? = some (.cells #[.nilFunc, .nilFunc, .nilFunc, .nilFunc, .nilFunc, .nilFunc] 99 (0, 0)) := by rw [hw1]; exact (Below.heap_alloc _ _ _ (by simp)).trans q.out
  rw [World.size_alloc] at hb
  have HB := Lib.hid hb
  have HT := Lib.hid ht
  have HQ := Lib.hid hq
  have hz : w.heap.size < w1.heap.size := by rw [hw1]; simp; omega
  clear hw1 hb ht hq q
  go_wp2_with (first
    | (with_reducible refine wpList_store_I (w.heap.size + 1) rfl (.tmp 0) (.tmp 2) rfl w.heap.size rfl rfl _ HQ.out rfl ?_; intro w2 hq2 ht2)
    | fail)
  have HF : Hid (MadeI w (.returned (.agg #[.func (.func 89) #[] #[], .func (.func 90) #[] #[], .func (.func 91) #[] #[], .func (.func 93) #[] #[], .func (.func 95) #[] #[], .func (.func 140) #[] #[.pointer (some ⟨w.heap.size + 1, 0, none⟩)]])) w2) := Lib.hid ⟨w.heap.size + 1, rfl, block_turn HB.out ht2 (by omega), Pk.turn_of (grown_put HT.out.grown ht2 (Nat.le_refl _))⟩
  refine bodyPost_ret (v := .agg #[.func (.func 89) #[] #[], .func (.func 90) #[] #[], .func (.func 91) #[] #[], .func (.func 93) #[] #[], .func (.func 95) #[] #[], .func (.func 140) #[] #[.pointer (some ⟨w.heap.size + 1, 0, none⟩)]]) (run_results_row rfl _ _ _ _ _ (0, 0) _ rfl hq2 Tryz.underlying99 rfl info_I) rfl HF.out

theorem info_B : (Tryz.prog.info? 108).map (·.size) = some 6 := by kernel_rfl
theorem wpList_store_B {w : World} {ops : Array Oper} {rest : List Oper} {o : Oper} {a : Act} {Q : Exit → Act → World → Prop} (hgd : o.guard = none) (x y : Operand) (ho : o.op = .store 108 x y)
    (g : Nat) (hx : a.eval x = .pointer (some ⟨g, 0, none⟩)) (hy : a.eval y = .agg #[.func (.func 98) #[] #[], .func (.func 99) #[] #[], .func (.func 100) #[] #[], .func (.func 101) #[] #[], .func (.func 102) #[] #[], .func (.func 103) #[] #[]]) (old : Array Value) (hg : w.heap[g]? = some (.cells old 108 (0, 0))) (hold : old.size = 6)
    (h : ∀ w', w'.heap[g]? = some (.cells #[.func (.func 98) #[] #[], .func (.func 99) #[] #[], .func (.func 100) #[] #[], .func (.func 101) #[] #[], .func (.func 102) #[] #[], .func (.func 103) #[] #[]] 108 (0, 0)) → Turn w w' (· = g) → wpList Tryz.prog ops Q rest (a.put o.dst undef) w') : wpList Tryz.prog ops Q (o :: rest) a w := by
  refine wpList_store_row hgd _ x y ho g _ hx hy _ _ hg info_B hold (by simp [Value.oneCell']) ?_
  exact h _ (setRow_heap w g _ _ _ _ hg) ⟨rfl, rfl, rfl, by simp [World.setRow], fun k _ hk => setRow_other w g k _ hk⟩
set_option maxHeartbeats 1000000 in
theorem codec_B (w : World) : Calls Tryz.prog 54 #[] w fun e w' => e = .returned (.agg #[.func (.func 98) #[] #[], .func (.func 99) #[] #[], .func (.func 100) #[] #[], .func (.func 101) #[] #[], .func (.func 102) #[] #[], .func (.func 103) #[] #[]]) ∧ Turn w w' nowhere := by
  have q := Lib.hid (heap_alloc_new w (.cells #[.nilFunc, .nilFunc, .nilFunc, .nilFunc, .nilFunc, .nilFunc] 108))
  have HG := Lib.hid (grown_alloc w (.cells #[.nilFunc, .nilFunc, .nilFunc, .nilFunc, .nilFunc, .nilFunc] 108))
  go_enter Tryz.func54, Tryz.ntmps54
  go_wp2_with (first
    | (with_reducible refine wpList_store_B rfl (.tmp 0) (.tmp 1) rfl w.heap.size rfl rfl _ q.out rfl ?_; intro w2 hq2 ht2)
    | fail)
  refine bodyPost_ret (v := .agg #[.func (.func 98) #[] #[], .func (.func 99) #[] #[], .func (.func 100) #[] #[], .func (.func 101) #[] #[], .func (.func 102) #[] #[], .func (.func 103) #[] #[]]) (run_results_row rfl _ _ _ _ _ (0, 0) _ rfl hq2 Tryz.underlying108 rfl info_B) rfl ⟨rfl, Pk.turn_of (grown_put HG.out ht2 (Nat.le_refl _))⟩

theorem info_T : (Tryz.prog.info? 117).map (·.size) = some 6 := by kernel_rfl
theorem wpList_store_T (b : Nat) {w : World} {ops : Array Oper} {rest : List Oper} {o : Oper} {a : Act} {Q : Exit → Act → World → Prop} (hgd : o.guard = none) (x y : Operand) (ho : o.op = .store 117 x y)
    (g : Nat) (hx : a.eval x = .pointer (some ⟨g, 0, none⟩)) (hy : a.eval y = .agg #[.func (.func 105) #[] #[], .func (.func 106) #[] #[], .func (.func 107) #[] #[], .func (.func 108) #[] #[], .func (.func 109) #[] #[], .func (.func 146) #[] #[.pointer (some ⟨b, 0, none⟩)]]) (old : Array Value) (hg : w.heap[g]? = some (.cells old 117 (0, 0))) (hold : old.size = 6)
    (h : ∀ w', w'.heap[g]? = some (.cells #[.func (.func 105) #[] #[], .func (.func 106) #[] #[], .func (.func 107) #[] #[], .func (.func 108) #[] #[], .func (.func 109) #[] #[], .func (.func 146) #[] #[.pointer (some ⟨b, 0, none⟩)]] 117 (0, 0)) → Turn w w' (· = g) → wpList Tryz.prog ops Q rest (a.put o.dst undef) w') : wpList Tryz.prog ops Q (o :: rest) a w := by
  refine wpList_store_row hgd _ x y ho g _ hx hy _ _ hg info_T hold (by simp [Value.oneCell']) ?_
  exact h _ (setRow_heap w g _ _ _ _ hg) ⟨rfl, rfl, rfl, by simp [World.setRow], fun k _ hk => setRow_other w g k _ hk⟩
/-- the box that holds the library's function -/
def BoxT (w : World) (b : Nat) : Prop := w.heap[b]? = some (.cells #[.func (.func 111) #[] #[]] 144 (0, 0))
theorem BoxT.old {w w' : World} {b : Nat} (h : BoxT w b) (k : Turn w w' nowhere) : BoxT w' b := block_old h k.grown
theorem BoxT.cell {w : World} {b : Nat} (h : BoxT w b) : w.cell? ⟨b, 0, none⟩ = some (.func (.func 111) #[] #[]) := by
  unfold BoxT at h
  rw [cell_of_row _ _ _ _ _ _ h]; rfl
/-- a coder made -/
def MadeT (w : World) (e : Ending) (w' : World) : Prop := ∃ b, e = .returned (.agg #[.func (.func 105) #[] #[], .func (.func 106) #[] #[], .func (.func 107) #[] #[], .func (.func 108) #[] #[], .func (.func 109) #[] #[], .func (.func 146) #[] #[.pointer (some ⟨b, 0, none⟩)]]) ∧ BoxT w' b ∧ Turn w w' nowhere
set_option maxHeartbeats 1000000 in
theorem codec_T (w : World) : Calls Tryz.prog 55 #[] w (MadeT w) := by
  have q := Lib.hid (heap_alloc_new w (.cells #[.nilFunc, .nilFunc, .nilFunc, .nilFunc, .nilFunc, .nilFunc] 117))
  have HX := Lib.hid (fun W => exactly_T W)
  go_enter Tryz.func55, Tryz.ntmps55
  go_wp2_with fail
  refine (HX.out _).mono ?_
  rintro e w1 ⟨rfl, hw1⟩
  have hb : BoxT w1 (w.alloc (.cells #[.nilFunc, .nilFunc, .nilFunc, .nilFunc, .nilFunc, .nilFunc] 117)).heap.size := by rw [hw1]; exact heap_alloc_new _ _
  have ht : Turn w w1 nowhere := by rw [hw1]; exact (Turn.alloc w _ nowhere).trans (Turn.alloc _ _ nowhere) (fun _ _ h => h)
  have hq : w1.heap[w.heap.size]? = some (.cells #[.nilFunc, .nilFunc, .nilFunc, .nilFunc, .nilFunc, .nilFunc] 117 (0, 0)) := by rw [hw1]; exact (Below.heap_alloc _ _ _ (by simp)).trans q.out
  rw [World.size_alloc] at hb
  have HB := Lib.hid hb
  have HT := Lib.hid ht
  have HQ := Lib.hid hq
  have hz : w.heap.size < w1.heap.size := by rw [hw1]; simp; omega
  clear hw1 hb ht hq q
  go_wp2_with (first
    | (with_reducible refine wpList_store_T (w.heap.size + 1) rfl (.tmp 0) (.tmp 2) rfl w.heap.size rfl rfl _ HQ.out rfl ?_; intro w2 hq2 ht2)
    | fail)
  have HF : Hid (MadeT w (.returned (.agg #[.func (.func 105) #[] #[], .func (.func 106) #[] #[], .func (.func 107) #[] #[], .func (.func 108) #[] #[], .func (.func 109) #[] #[], .func (.func 146) #[] #[.pointer (some ⟨w.heap.size + 1, 0, none⟩)]])) w2) := Lib.hid ⟨w.heap.size + 1, rfl, block_turn HB.out ht2 (by omega), Pk.turn_of (grown_put HT.out.grown ht2 (Nat.le_refl _))⟩
  refine bodyPost_ret (v := .agg #[.func (.func 105) #[] #[], .func (.func 106) #[] #[], .func (.func 107) #[] #[], .func (.func 108) #[] #[], .func (.func 109) #[] #[], .func (.func 146) #[] #[.pointer (some ⟨w.heap.size + 1, 0, none⟩)]]) (run_results_row rfl _ _ _ _ _ (0, 0) _ rfl hq2 Tryz.underlying117 rfl info_T) rfl HF.out

/-- a coder of that kind, in an interface -/
def CodV (w : World) (kind : Int) (v : Value) : Prop :=
  (kind = 1 ∧ ∃ b, v = .iface 99 (.agg #[.func (.func 89) #[] #[], .func (.func 90) #[] #[], .func (.func 91) #[] #[], .func (.func 93) #[] #[], .func (.func 95) #[] #[], .func (.func 140) #[] #[.pointer (some ⟨b, 0, none⟩)]]) ∧ BoxI w b) ∨ (kind = 2 ∧ v = .iface 108 (.agg #[.func (.func 98) #[] #[], .func (.func 99) #[] #[], .func (.func 100) #[] #[], .func (.func 101) #[] #[], .func (.func 102) #[] #[], .func (.func 103) #[] #[]])) ∨ (kind = 3 ∧ ∃ b, v = .iface 117 (.agg #[.func (.func 105) #[] #[], .func (.func 106) #[] #[], .func (.func 107) #[] #[], .func (.func 108) #[] #[], .func (.func 109) #[] #[], .func (.func 146) #[] #[.pointer (some ⟨b, 0, none⟩)]]) ∧ BoxT w b)
theorem CodV.old {w w' : World} {kind : Int} {v : Value} (h : CodV w kind v) (k : Turn w w' nowhere) : CodV w' kind v := by
  rcases h with ⟨h1, b, h2, h3⟩ | h | ⟨h1, b, h2, h3⟩
  · exact .inl ⟨h1, b, h2, h3.old k⟩
  · exact .inr (.inl h)
  · exact .inr (.inr ⟨h1, b, h2, h3.old k⟩)
def CoderX (w : World) (kind : Int) (e : Ending) (w' : World) : Prop := ∃ v, e = .returned v ∧ CodV w' kind v ∧ Turn w w' nowhere

set_option maxHeartbeats 1000000 in
theorem coderOf_I (w : World) : Calls Tryz.prog 31 #[.int .i64 1] w (CoderX w 1) := by
  have HC := Lib.hid (fun W => codec_I W)
  go_enter Tryz.func31, Tryz.ntmps31
  go_wp2_with fail
  refine (HC.out _).mono ?_
  rintro e w1 ⟨b, rfl, hb, ht⟩
  have HF : Hid (CoderX w 1 (.returned (.iface 99 (.agg #[.func (.func 89) #[] #[], .func (.func 90) #[] #[], .func (.func 91) #[] #[], .func (.func 93) #[] #[], .func (.func 95) #[] #[], .func (.func 140) #[] #[.pointer (some ⟨b, 0, none⟩)]]))) w1) := Lib.hid ⟨_, rfl, .inl ⟨rfl, b, rfl, hb⟩, ht⟩
  clear hb ht
  go_wp2
  go_ret
  exact HF.out
set_option maxHeartbeats 1000000 in
theorem coderOf_B (w : World) : Calls Tryz.prog 31 #[.int .i64 2] w (CoderX w 2) := by
  have HC := Lib.hid (fun W => codec_B W)
  go_enter Tryz.func31, Tryz.ntmps31
  go_wp2_with fail
  refine (HC.out _).mono ?_
  rintro e w1 ⟨rfl, ht⟩
  have HF : Hid (CoderX w 2 (.returned (.iface 108 (.agg #[.func (.func 98) #[] #[], .func (.func 99) #[] #[], .func (.func 100) #[] #[], .func (.func 101) #[] #[], .func (.func 102) #[] #[], .func (.func 103) #[] #[]]))) w1) := Lib.hid ⟨_, rfl, .inr (.inl ⟨rfl, rfl⟩), ht⟩
  clear ht
  go_wp2
  go_ret
  exact HF.out
set_option maxHeartbeats 1000000 in
theorem coderOf_T (w : World) : Calls Tryz.prog 31 #[.int .i64 3] w (CoderX w 3) := by
  have HC := Lib.hid (fun W => codec_T W)
  go_enter Tryz.func31, Tryz.ntmps31
  go_wp2_with fail
  refine (HC.out _).mono ?_
  rintro e w1 ⟨b, rfl, hb, ht⟩
  have HF : Hid (CoderX w 3 (.returned (.iface 117 (.agg #[.func (.func 105) #[] #[], .func (.func 106) #[] #[], .func (.func 107) #[] #[], .func (.func 108) #[] #[], .func (.func 109) #[] #[], .func (.func 146) #[] #[.pointer (some ⟨b, 0, none⟩)]]))) w1) := Lib.hid ⟨_, rfl, .inr (.inr ⟨rfl, b, rfl, hb⟩), ht⟩
  clear hb ht
  go_wp2
  go_ret
  exact HF.out
theorem coderOf_any (kind : Int) (w : World) (k1 : 1 ≤ kind) (k3 : kind ≤ 3) : Calls Tryz.prog 31 #[.int .i64 kind] w (CoderX w kind) := by
  rcases (by omega : kind = 1 ∨ kind = 2 ∨ kind = 3) with rfl | rfl | rfl
  · exact coderOf_I w
  · exact coderOf_B w
  · exact coderOf_T w
set_option maxHeartbeats 1000000 in
theorem coderOf_no (kind : Int) (w : World) (h : kind < 1 ∨ 3 < kind) : Calls Tryz.prog 31 #[.int .i64 kind] w fun e w' => e = .returned .nilIface ∧ w = w' := by
  have q1 : (kind == 1) = false := beq_eq_false_iff_ne.2 (by omega)
  have q2 : (kind == 2) = false := beq_eq_false_iff_ne.2 (by omega)
  have q3 : (kind == 3) = false := beq_eq_false_iff_ne.2 (by omega)
  go_enter Tryz.func31, Tryz.ntmps31
  go_wp2
  go_ret
  exact ⟨rfl, rfl⟩
end Go.Proofs.YtljanfnhmhimiaaGreat.Sg

namespace Go.Proofs.YtljanfnhmhimiaaGreat.Sg
open Go.RowKit Go.Joins Zn Zr Dv
open Bs (info_u8)

set_option maxHeartbeats 1000000 in
theorem value_I (c : Cel) (w : World) : Calls Tryz.prog 89 #[.agg #[.int .i64 c.k, .int .i64 c.n, .string c.s]] w fun e w' => e = .returned (.int .i64 c.n) ∧ w.grownBy w' none := by
  have HG := Lib.hid (grown_alloc w (.cells #[.int .i64 c.k, .int .i64 c.n, .string c.s] 24))
  go_enter Tryz.func89, Tryz.ntmps89
  go_wp2
  go_ret
  exact ⟨rfl, HG.out⟩

set_option maxHeartbeats 1000000 in
theorem value_B (c : Cel) (w : World) : Calls Tryz.prog 98 #[.agg #[.int .i64 c.k, .int .i64 c.n, .string c.s]] w fun e w' => e = .returned (.int .u64 (In.u c.n)) ∧ w.grownBy w' none := by
  have HG := Lib.hid (grown_alloc w (.cells #[.int .i64 c.k, .int .i64 c.n, .string c.s] 24))
  have hw : IntKind.u64.wrap c.n = In.u c.n := In.conv_u c.n
  go_enter Tryz.func98, Tryz.ntmps98
  go_wp2
  go_ret
  exact ⟨rfl, HG.out⟩

set_option maxHeartbeats 1000000 in
theorem value_T (c : Cel) (w : World) : Calls Tryz.prog 105 #[.agg #[.int .i64 c.k, .int .i64 c.n, .string c.s]] w fun e w' => e = .returned (.string c.s) ∧ w.grownBy w' none := by
  have HG := Lib.hid (grown_alloc w (.cells #[.int .i64 c.k, .int .i64 c.n, .string c.s] 24))
  go_enter Tryz.func105, Tryz.ntmps105
  go_wp2
  go_ret
  exact ⟨rfl, HG.out⟩

set_option maxHeartbeats 1000000 in
theorem cell_I (v : Int) (w : World) : Calls Tryz.prog 90 #[.int .i64 v] w fun e w' => e = .returned (.agg #[.int .i64 1, .int .i64 v, .string ⟨#[]⟩]) ∧ w.grownBy w' none := by
  go_enter Tryz.func90, Tryz.ntmps90
  go_wp2
  refine bodyPost_ret (v := .agg #[.int .i64 1, .int .i64 v, .string ⟨#[]⟩]) (run_results_row rfl _ _ w.heap.size _ _ (0, 0) _ rfl (heap_alloc_new _ _) Tryz.underlying24 rfl info_cell2) rfl ⟨rfl, grown_alloc _ _⟩

set_option maxHeartbeats 1000000 in
theorem cell_B (v : Int) (h0 : 0 ≤ v) (h1 : v < 9223372036854775808) (w : World) : Calls Tryz.prog 99 #[.int .u64 v] w fun e w' => e = .returned (.agg #[.int .i64 2, .int .i64 v, .string ⟨#[]⟩]) ∧ w.grownBy w' none := by
  have hw : IntKind.i64.wrap v = v := IntWalk.i64_in _ (by omega)
  go_enter Tryz.func99, Tryz.ntmps99
  go_wp2
  refine bodyPost_ret (v := .agg #[.int .i64 2, .int .i64 v, .string ⟨#[]⟩]) (run_results_row rfl _ _ w.heap.size _ _ (0, 0) _ rfl (heap_alloc_new _ _) Tryz.underlying24 rfl info_cell2) rfl ⟨rfl, grown_alloc _ _⟩

set_option maxHeartbeats 1000000 in
theorem cell_T (s : ByteArray) (w : World) : Calls Tryz.prog 106 #[.string s] w fun e w' => e = .returned (.agg #[.int .i64 3, .int .i64 0, .string s]) ∧ w.grownBy w' none := by
  go_enter Tryz.func106, Tryz.ntmps106
  go_wp2
  refine bodyPost_ret (v := .agg #[.int .i64 3, .int .i64 0, .string s]) (run_results_row rfl _ _ w.heap.size _ _ (0, 0) _ rfl (heap_alloc_new _ _) Tryz.underlying24 rfl info_cell2) rfl ⟨rfl, grown_alloc _ _⟩

/-- bytes handed back, new memory -/
def BytesX (w : World) (m : Nat) (B : List Int) (e : Ending) (w' : World) : Prop := ∃ a k, e = .returned (.slice a m k) ∧ Bs.Seg w' a m k B ∧ Turn w w' nowhere
theorem bytes_of {w w' : World} {B : List Int} {e : Ending} {m : Nat} (hm : B.length = m) (h : Oct.NewB w B e w') : BytesX w m B e w' := by
  obtain ⟨g, q, rfl, hf⟩ := h.value
  obtain ⟨hq, hown, hg⟩ := hf.is
  obtain rfl : q = m := hq.trans hm
  exact ⟨_, _, rfl, In.bseg (Oct.Seg.own hown), Pk.turn_of hg⟩

set_option maxHeartbeats 1000000 in
theorem putOne_I (v : Int) (w : World) : Calls Tryz.prog 91 #[.int .i64 v] w (BytesX w 8 (In.num8 v)) := by
  have hw : IntKind.u64.wrap v = In.u v := In.conv_u v
  have HP := Lib.hid (Oct.put_yes none 0 0 [] (In.u v) 8 w (Oct.Seg.nil w) (In.u_bd v).1 (In.u_bd v).2 (by decide) (by decide) (by decide))
  go_enter Tryz.func91, Tryz.ntmps91
  go_wp2_with fail
  refine HP.out.mono ?_
  rintro e w1 hnew
  rw [List.nil_append] at hnew
  have HF := Lib.hid (bytes_of (m := 8) (In.num8_length v) hnew)
  obtain ⟨g, q, rfl, hf⟩ := hnew.value
  clear hf hw
  go_wp2
  go_ret
  exact HF.out

set_option maxHeartbeats 1000000 in
theorem putOne_B (v : Int) (h0 : 0 ≤ v) (h1 : v < 256) (w : World) : Calls Tryz.prog 100 #[.int .u64 v] w (BytesX w 1 [v]) := by
  have HP := Lib.hid (Oct.put_yes none 0 0 [] v 1 w (Oct.Seg.nil w) h0 (by omega) (by decide) (by decide) (by decide))
  have HE : Hid ([] ++ Oct.putB 1 v = [v]) := Lib.hid (by rw [List.nil_append]; show [v % 256] = [v]; rw [Int.emod_eq_of_lt h0 h1])
  go_enter Tryz.func100, Tryz.ntmps100
  go_wp2_with fail
  refine HP.out.mono ?_
  rintro e w1 hnew
  rw [HE.out] at hnew
  have HF := Lib.hid (bytes_of (m := 1) rfl hnew)
  obtain ⟨g, q, rfl, hf⟩ := hnew.value
  clear hf
  go_wp2
  go_ret
  exact HF.out

set_option maxHeartbeats 1000000 in
theorem putOne_T (x : List Int) (m : Nat) (hx : Bs.IsB x) (hl : x.length ≤ 65536) (hm : (Tx.strB x).length = m) (w : World) : Calls Tryz.prog 107 #[.string (strOfNums x)] w (BytesX w m (Tx.strB x)) := by
  obtain ⟨i0, hi, hz0, hz1, hz2⟩ := info_parts info_u8
  have hss := strOfNums_size x
  obtain ⟨xl, hxe⟩ : ∃ n, x.length = n := ⟨_, rfl⟩
  rw [hxe] at hss hl
  have hwu := Tx.wrap_u64 (n := xl) (by omega)
  have HPut := Lib.hid (Oct.putVar_any none 0 0 [] (xl : Int) w (Oct.Seg.nil w) (by omega) (by omega) (by omega))
  have hvl := Oct.varB_le 9 (xl : Int)
  have HSS := Lib.hid hss
  have HX := Lib.hid hx
  have HXE := Lib.hid hxe
  have HM : Hid ((Oct.varB 9 (xl : Int) ++ x).length = m) := Lib.hid (by rw [← hm, ← hxe]; rfl)
  have HS : Hid (Tx.strB x = Oct.varB 9 (xl : Int) ++ x) := Lib.hid (by rw [← hxe]; rfl)
  clear hm hx hxe
  go_enter Tryz.func107, Tryz.ntmps107
  go_wp2_with fail
  refine HPut.out.mono ?_
  rintro e w1 hnew
  rw [List.nil_append] at hnew
  obtain ⟨g, p, rfl, hf⟩ := hnew.value
  obtain ⟨hp, hown1, hg⟩ := hf.is
  rw [← hp] at hvl
  have HPl := Lib.hid hp
  have HO1 := Lib.hid hown1
  have HG1 := Lib.hid hg
  have HS2 : Hid (w.heap.size ≤ w1.heap.size) := Lib.hid hg.size
  clear hnew hf hown1 hg hp
  go_wp2_with (at_builtin; refine Lib.wpList_append_own_string _ rfl _ _ 45 9 rfl w.heap.size 5 i0 Tryz.underlying45 Tryz.underlying9 hi hz0 hz1 hz2 _ p _ rfl HO1.out (strOfNums x) rfl (by rw [HSS.out]; unfold maxLen; omega) (by rw [HSS.out]; omega) HS2.out ?_; intro v3 w3 hown3 hgrow3 hnil3)
  rw [HSS.out, Tx.strCells_nums x HX.out, ← List.map_append] at hown3
  obtain ⟨g3, c3, rfl⟩ := Nu.ownsRow_form hown3 (by have := HPl.out; have := Oct.varB_pos 9 (xl : Int); omega)
  have HF : Hid (BytesX w m (Tx.strB x) (.returned (.slice (some ⟨g3, 0, none⟩) (p + xl) c3)) w3) := Lib.hid (by
    have h1 := HM.out
    rw [List.length_append, ← HPl.out, HXE.out] at h1
    rw [HS.out, ← h1]
    exact ⟨_, _, rfl, Bs.Seg.own hown3, Pk.turn_of (Bs.grownBy_trans HG1.out hgrow3 (fun i e => (HO1.out.lt i e).1))⟩)
  clear hown3 hgrow3 hnil3
  go_wp2
  go_ret
  exact HF.out

set_option maxRecDepth 100000 in
set_option maxHeartbeats 2000000 in
theorem putCell_I (b : Nat) (c : Cel) (w : World) : Calls Tryz.prog 237 #[.agg #[.func (.func 89) #[] #[], .func (.func 90) #[] #[], .func (.func 91) #[] #[], .func (.func 93) #[] #[], .func (.func 95) #[] #[], .func (.func 140) #[] #[.pointer (some ⟨b, 0, none⟩)]], .agg #[.int .i64 c.k, .int .i64 c.n, .string c.s]] w (BytesX w 8 (In.num8 c.n)) := by
  have HV := fun W => value_I c W

  have HP := Lib.hid (fun W => putOne_I c.n W)
  have HV := Lib.hid HV
  go_enter Tryz.func237, Tryz.ntmps237
  go_wp2
  go_region_held3 (fun w' => w'.cell? ⟨w.heap.size, 2, none⟩ = some (.func (.func 91) #[] #[]) ∧ w'.cell? ⟨w.heap.size, 0, none⟩ = some (.func (.func 89) #[] #[]) ∧ w'.cell? ⟨w.heap.size + 1, 0, none⟩ = some (.int .i64 c.k) ∧ w'.cell? ⟨w.heap.size + 1, 1, none⟩ = some (.int .i64 c.n) ∧ w'.cell? ⟨w.heap.size + 1, 2, none⟩ = some (.string c.s)) (go_keep)
    (first
      | (go_at_call 89
         (with_reducible refine (HV.out _).mono ?_)
         rintro e wv ⟨rfl, hg⟩
         have T1 := Lib.hid (((Turn.alloc w _ nowhere).trans (Turn.alloc _ _ nowhere) (fun _ _ h => h)).trans ((Turn.drew _ nowhere).trans (Pk.turn_of hg) (fun _ _ h => h)) (fun _ _ h => h))
         have q0 := (Pk.turn_of hg).cell (p := ⟨w.heap.size, 2, none⟩) (v := .func (.func 91) #[] #[]) (by simp [go_sem]) id
         have q1 := (Pk.turn_of hg).cell (p := ⟨w.heap.size, 0, none⟩) (v := .func (.func 89) #[] #[]) (by simp [go_sem]) id
         have q2 := (Pk.turn_of hg).cell (p := ⟨w.heap.size + 1, 0, none⟩) (v := .int .i64 c.k) (by simp [go_sem]) id
         have q3 := (Pk.turn_of hg).cell (p := ⟨w.heap.size + 1, 1, none⟩) (v := .int .i64 c.n) (by simp [go_sem]) id
         have q4 := (Pk.turn_of hg).cell (p := ⟨w.heap.size + 1, 2, none⟩) (v := .string c.s) (by simp [go_sem]) id
         clear hg)
      | (go_at_call 91
         (with_reducible refine (HP.out _).mono ?_)
         rintro e w2 ⟨a, k, rfl, hs, ht⟩
         have T2 := Lib.hid (T1.out.trans ht (fun _ _ h => h))
         have S2 := Lib.hid hs
         have p0 := ht.cell q0 id
         have p1 := ht.cell q1 id
         have p2 := ht.cell q2 id
         have p3 := ht.cell q3 id
         have p4 := ht.cell q4 id
         clear hs ht)
      | fail)
  go_wp2
  go_ret
  exact ⟨a, k, rfl, S2.out, T2.out⟩

set_option maxRecDepth 100000 in
set_option maxHeartbeats 2000000 in
theorem putCell_B (c : Cel) (h0 : 0 ≤ c.n) (h1 : c.n < 256) (w : World) : Calls Tryz.prog 241 #[.agg #[.func (.func 98) #[] #[], .func (.func 99) #[] #[], .func (.func 100) #[] #[], .func (.func 101) #[] #[], .func (.func 102) #[] #[], .func (.func 103) #[] #[]], .agg #[.int .i64 c.k, .int .i64 c.n, .string c.s]] w (BytesX w 1 [c.n]) := by
  have HV := fun W => value_B c W
  have hu : In.u c.n = c.n := by unfold In.u; omega
  rw [hu] at HV
  have HP := Lib.hid (fun W => putOne_B c.n h0 h1 W)
  have HV := Lib.hid HV
  go_enter Tryz.func241, Tryz.ntmps241
  go_wp2
  go_region_held3 (fun w' => w'.cell? ⟨w.heap.size, 2, none⟩ = some (.func (.func 100) #[] #[]) ∧ w'.cell? ⟨w.heap.size, 0, none⟩ = some (.func (.func 98) #[] #[]) ∧ w'.cell? ⟨w.heap.size + 1, 0, none⟩ = some (.int .i64 c.k) ∧ w'.cell? ⟨w.heap.size + 1, 1, none⟩ = some (.int .i64 c.n) ∧ w'.cell? ⟨w.heap.size + 1, 2, none⟩ = some (.string c.s)) (go_keep)
    (first
      | (go_at_call 98
         (with_reducible refine (HV.out _).mono ?_)
         rintro e wv ⟨rfl, hg⟩
         have T1 := Lib.hid (((Turn.alloc w _ nowhere).trans (Turn.alloc _ _ nowhere) (fun _ _ h => h)).trans ((Turn.drew _ nowhere).trans (Pk.turn_of hg) (fun _ _ h => h)) (fun _ _ h => h))
         have q0 := (Pk.turn_of hg).cell (p := ⟨w.heap.size, 2, none⟩) (v := .func (.func 100) #[] #[]) (by simp [go_sem]) id
         have q1 := (Pk.turn_of hg).cell (p := ⟨w.heap.size, 0, none⟩) (v := .func (.func 98) #[] #[]) (by simp [go_sem]) id
         have q2 := (Pk.turn_of hg).cell (p := ⟨w.heap.size + 1, 0, none⟩) (v := .int .i64 c.k) (by simp [go_sem]) id
         have q3 := (Pk.turn_of hg).cell (p := ⟨w.heap.size + 1, 1, none⟩) (v := .int .i64 c.n) (by simp [go_sem]) id
         have q4 := (Pk.turn_of hg).cell (p := ⟨w.heap.size + 1, 2, none⟩) (v := .string c.s) (by simp [go_sem]) id
         clear hg)
      | (go_at_call 100
         (with_reducible refine (HP.out _).mono ?_)
         rintro e w2 ⟨a, k, rfl, hs, ht⟩
         have T2 := Lib.hid (T1.out.trans ht (fun _ _ h => h))
         have S2 := Lib.hid hs
         have p0 := ht.cell q0 id
         have p1 := ht.cell q1 id
         have p2 := ht.cell q2 id
         have p3 := ht.cell q3 id
         have p4 := ht.cell q4 id
         clear hs ht)
      | fail)
  go_wp2
  go_ret
  exact ⟨a, k, rfl, S2.out, T2.out⟩

set_option maxRecDepth 100000 in
set_option maxHeartbeats 2000000 in
theorem putCell_T (b : Nat) (c : Cel) (hl : c.s.size ≤ 65536) (m : Nat) (hm : (Tx.strB (nm c.s)).length = m) (w : World) : Calls Tryz.prog 245 #[.agg #[.func (.func 105) #[] #[], .func (.func 106) #[] #[], .func (.func 107) #[] #[], .func (.func 108) #[] #[], .func (.func 109) #[] #[], .func (.func 146) #[] #[.pointer (some ⟨b, 0, none⟩)]], .agg #[.int .i64 c.k, .int .i64 c.n, .string c.s]] w (BytesX w m (Tx.strB (nm c.s))) := by
  have HV := fun W => value_T c W

  have HP := Lib.hid (fun W => (by have h := putOne_T (nm c.s) m (nm_isB _) (by rw [nm_len]; exact hl) hm W; rw [str_nm] at h; exact h : Calls Tryz.prog 107 #[.string c.s] W (BytesX W m (Tx.strB (nm c.s)))))
  have HV := Lib.hid HV
  go_enter Tryz.func245, Tryz.ntmps245
  go_wp2
  go_region_held3 (fun w' => w'.cell? ⟨w.heap.size, 2, none⟩ = some (.func (.func 107) #[] #[]) ∧ w'.cell? ⟨w.heap.size, 0, none⟩ = some (.func (.func 105) #[] #[]) ∧ w'.cell? ⟨w.heap.size + 1, 0, none⟩ = some (.int .i64 c.k) ∧ w'.cell? ⟨w.heap.size + 1, 1, none⟩ = some (.int .i64 c.n) ∧ w'.cell? ⟨w.heap.size + 1, 2, none⟩ = some (.string c.s)) (go_keep)
    (first
      | (go_at_call 105
         (with_reducible refine (HV.out _).mono ?_)
         rintro e wv ⟨rfl, hg⟩
         have T1 := Lib.hid (((Turn.alloc w _ nowhere).trans (Turn.alloc _ _ nowhere) (fun _ _ h => h)).trans ((Turn.drew _ nowhere).trans (Pk.turn_of hg) (fun _ _ h => h)) (fun _ _ h => h))
         have q0 := (Pk.turn_of hg).cell (p := ⟨w.heap.size, 2, none⟩) (v := .func (.func 107) #[] #[]) (by simp [go_sem]) id
         have q1 := (Pk.turn_of hg).cell (p := ⟨w.heap.size, 0, none⟩) (v := .func (.func 105) #[] #[]) (by simp [go_sem]) id
         have q2 := (Pk.turn_of hg).cell (p := ⟨w.heap.size + 1, 0, none⟩) (v := .int .i64 c.k) (by simp [go_sem]) id
         have q3 := (Pk.turn_of hg).cell (p := ⟨w.heap.size + 1, 1, none⟩) (v := .int .i64 c.n) (by simp [go_sem]) id
         have q4 := (Pk.turn_of hg).cell (p := ⟨w.heap.size + 1, 2, none⟩) (v := .string c.s) (by simp [go_sem]) id
         clear hg)
      | (go_at_call 107
         (with_reducible refine (HP.out _).mono ?_)
         rintro e w2 ⟨a, k, rfl, hs, ht⟩
         have T2 := Lib.hid (T1.out.trans ht (fun _ _ h => h))
         have S2 := Lib.hid hs
         have p0 := ht.cell q0 id
         have p1 := ht.cell q1 id
         have p2 := ht.cell q2 id
         have p3 := ht.cell q3 id
         have p4 := ht.cell q4 id
         clear hs ht)
      | fail)
  go_wp2
  go_ret
  exact ⟨a, k, rfl, S2.out, T2.out⟩
end Go.Proofs.YtljanfnhmhimiaaGreat.Sg

namespace Go.Proofs.YtljanfnhmhimiaaGreat.Sg
open Go.RowKit Go.Joins Zn Zr Dv
open Oct (Rd ReadN ReadV readV ofB)
open In (At turn_read sg)

/-- one value read: the value and the rest, or an error -/
def OneX (b g : Nat) (w : World) (o : Option (Value × List Int)) (e : Ending) (w' : World) : Prop :=
  Turn w w' (At b) ∧ ∃ v er r, e = .returned (.tuple #[v, .int .i64 er]) ∧ Rd w' b g r ∧ Oct.IsB r ∧ r.length ≤ 100000000 ∧ (match (generalizing := false) o with
    | some (x, rest) => er = 0 ∧ v = x ∧ r = rest
    | none => er ≠ 0)
def oneI (bs : List Int) : Option (Value × List Int) := if bs.length < 8 then none else some (.int .i64 (sg (ofB (bs.take 8))), bs.drop 8)
def oneB : List Int → Option (Value × List Int)
  | [] => none
  | v :: t => some (.int .u64 v, t)
def oneT (bs : List Int) : Option (Value × List Int) := match Tx.readS bs with
  | none => none
  | some (s, t) => some (.string (strOfNums s), t)
/-- one cell read: the cell and the rest, or a cell that is none of that kind -/
def CellX (b g : Nat) (kind : Int) (w : World) (o : Option (Cel × List Int)) (e : Ending) (w' : World) : Prop :=
  Turn w w' (At b) ∧ ∃ c r, e = .returned (.agg #[.int .i64 c.k, .int .i64 c.n, .string c.s]) ∧ Rd w' b g r ∧ Oct.IsB r ∧ r.length ≤ 100000000 ∧ (match (generalizing := false) o with
    | some (x, rest) => c = x ∧ r = rest
    | none => ¬ CelOk kind c)

set_option maxHeartbeats 1000000 in
theorem getOne_I (b g : Nat) (bs : List Int) (w : World) (h : Rd w b g bs) (hb : Oct.IsB bs) (hl : bs.length ≤ 100000000) :
    Calls Tryz.prog 93 #[.pointer (some ⟨b, 0, none⟩)] w (OneX b g w (oneI bs)) := by
  unfold oneI
  by_cases h8 : bs.length < 8
  · rw [if_pos h8]
    have HN := Lib.hid (Oct.number_more b g bs 8 w h (by decide) (by decide) (by omega))
    have HF : Hid (OneX b g w none (.returned (.tuple #[.int .i64 0, .int .i64 7])) w) := Lib.hid ⟨Turn.refl _ _, _, _, bs, rfl, h, hb, hl, (by show (7 : Int) ≠ 0; decide)⟩
    clear h hb hl h8
    go_enter Tryz.func93, Tryz.ntmps93
    go_wp2_with fail
    refine HN.out.mono ?_
    rintro e w1 ⟨rfl, rfl⟩
    go_wp2
    go_ret2
    exact HF.out
  · rw [if_neg h8]
    have HN := Lib.hid (Oct.number_yes b g bs 8 w h hb (by decide) (by decide) (by omega))
    obtain ⟨x, hx⟩ : ∃ x, x = ofB (bs.take 8) := ⟨_, rfl⟩
    have hxb := In.ofB_bd8 _ (In.isB_take hb 8) (by rw [List.length_take]; omega)
    have hxe : IntKind.i64.wrap x = sg x := by rw [IntWalk.i64_left]; exact In.wrap_sg _ (by rw [hx]; exact hxb.1) (by rw [hx]; exact hxb.2)
    rw [← hx] at HN ⊢
    have HB := Lib.hid hb
    clear h hb h8 hx hxb
    go_enter Tryz.func93, Tryz.ntmps93
    go_wp2_with fail
    refine HN.out.mono ?_
    rintro e w1 ⟨rfl, hg, hr⟩
    have HF : Hid (OneX b g w (some (.int .i64 (sg x), bs.drop 8)) (.returned (.tuple #[.int .i64 (sg x), .int .i64 0])) w1) := Lib.hid ⟨turn_read hg, _, _, _, rfl, hr, In.isB_drop HB.out 8, by rw [List.length_drop]; omega, rfl, rfl, rfl⟩
    clear hg hr
    dsimp only
    go_wp2
    go_ret2
    exact HF.out

set_option maxHeartbeats 1000000 in
theorem getOne_B (b g : Nat) (bs : List Int) (w : World) (h : Rd w b g bs) (hb : Oct.IsB bs) (hl : bs.length ≤ 100000000) :
    Calls Tryz.prog 101 #[.pointer (some ⟨b, 0, none⟩)] w (OneX b g w (oneB bs)) := by
  cases bs with
  | nil =>
    have HN := Lib.hid (Oct.number_more b g [] 1 w h (by decide) (by decide) (by decide))
    have HF : Hid (OneX b g w none (.returned (.tuple #[.int .u64 0, .int .i64 7])) w) := Lib.hid ⟨Turn.refl _ _, _, _, [], rfl, h, hb, hl, (by show (7 : Int) ≠ 0; decide)⟩
    clear h hb hl
    show Calls _ _ _ _ (OneX b g w none)
    go_enter Tryz.func101, Tryz.ntmps101
    go_wp2_with fail
    refine HN.out.mono ?_
    rintro e w1 ⟨rfl, rfl⟩
    go_wp2
    go_ret2
    exact HF.out
  | cons v t =>
    have hn := Oct.number_yes b g (v :: t) 1 w h hb (by decide) (by decide) (by simp)
    have he : ofB ((v :: t).take 1) = v := by
      show v + 256 * ofB (t.take 0) = v
      rw [List.take_zero]
      show v + 256 * 0 = v
      omega
    have hd : (v :: t).drop 1 = t := rfl
    rw [he, hd] at hn
    have HN := Lib.hid hn
    have HB : Hid (Oct.IsB t ∧ t.length ≤ 100000000) := Lib.hid ⟨fun x hx => hb x (List.mem_cons_of_mem _ hx), by rw [List.length_cons] at hl; omega⟩
    clear h hb hl he hd hn
    show Calls _ _ _ _ (OneX b g w (some (.int .u64 v, t)))
    go_enter Tryz.func101, Tryz.ntmps101
    go_wp2_with fail
    refine HN.out.mono ?_
    rintro e w1 ⟨rfl, hg, hr⟩
    have HF : Hid (OneX b g w (some (.int .u64 v, t)) (.returned (.tuple #[.int .u64 v, .int .i64 0])) w1) := Lib.hid ⟨turn_read hg, _, _, _, rfl, hr, HB.out.1, HB.out.2, rfl, rfl, rfl⟩
    clear hg hr
    dsimp only
    go_wp2
    go_ret2
    exact HF.out

set_option maxHeartbeats 2000000 in
theorem getText_any (b g : Nat) (bs : List Int) (w : World) (h : Rd w b g bs) (hb : Oct.IsB bs) (hl : bs.length ≤ 100000000) :
    Calls Tryz.prog 108 #[.pointer (some ⟨b, 0, none⟩)] w (OneX b g w (oneT bs)) := by
  unfold oneT
  have HVar := Lib.hid (Oct.var_any b g bs w h hb)
  unfold ReadV at HVar
  obtain ⟨v, er, nn, hv⟩ : ∃ v er nn, readV 0 0 bs = (v, er, nn) := ⟨_, _, _, rfl⟩
  have hvb : er = 0 → 0 ≤ v := fun h0 => by subst h0; exact (In.var_readV bs hb v nn hv).1
  unfold Tx.readS
  rw [hv] at HVar ⊢
  dsimp only at HVar ⊢
  obtain ⟨r1, hr1⟩ : ∃ r, bs.drop nn = r := ⟨_, rfl⟩
  have hr1b : Oct.IsB r1 := hr1 ▸ In.isB_drop hb nn
  have hr1l : r1.length ≤ 100000000 := by rw [← hr1, List.length_drop]; omega
  rw [hr1] at HVar ⊢
  have HR1 := Lib.hid hr1b
  have HR2 := Lib.hid hr1l
  clear h hb hv hr1 hr1b hr1l hl
  by_cases he : er = 0
  · subst he
    have hv0 := hvb rfl
    clear hvb
    by_cases hl : 65536 < v
    · rw [if_pos (.inr (.inl hl))]
      dsimp only
      go_enter Tryz.func108, Tryz.ntmps108
      go_wp2_with fail
      refine HVar.out.mono ?_
      rintro e w1 ⟨rfl, hg, hr⟩
      have HF : Hid (OneX b g w none (.returned (.tuple #[.string ⟨#[]⟩, .int .i64 4])) w1) := Lib.hid ⟨turn_read hg, _, _, _, rfl, hr, HR1.out, HR2.out, (by show (4 : Int) ≠ 0; decide)⟩
      clear hg hr
      dsimp only
      go_wp2
      go_ret2
      exact HF.out
    · obtain ⟨m, rfl⟩ := Int.eq_ofNat_of_zero_le hv0
      have hmw : IntKind.i64.wrap (m : Int) = (m : Int) := IntWalk.i64_in _ (by omega)
      by_cases hm : (r1.length : Int) < (m : Int)
      · rw [if_pos (.inr (.inr hm))]
        dsimp only
        go_enter Tryz.func108, Tryz.ntmps108
        go_wp2_with fail
        refine HVar.out.mono ?_
        rintro e w1 ⟨rfl, hg, hr⟩
        have HBy := Lib.hid (In.bytes_more b g r1 (m : Int) w1 hr (by omega) hm)
        have HF : Hid (OneX b g w none (.returned (.tuple #[.string ⟨#[]⟩, .int .i64 7])) w1) := Lib.hid ⟨turn_read hg, _, _, _, rfl, hr, HR1.out, HR2.out, (by show (7 : Int) ≠ 0; decide)⟩
        have hcv : ∀ W : World, (convert 45 9 (.slice none 0 0)).run Tryz.prog W = .ok (.string ⟨#[]⟩) W := fun W => by kernel_rfl
        clear hg hr hm
        dsimp only
        go_wp2_with fail
        refine HBy.out.mono ?_
        rintro e w2 ⟨rfl, rfl⟩
        go_wp2
        go_ret2
        exact HF.out
      · rw [if_neg (by rintro (h | h | h); exact h rfl; exact hl h; exact hm h), Int.toNat_natCast]
        dsimp only
        have hml : m ≤ r1.length := by omega
        have HML := Lib.hid hml
        have hm2 : m ≤ 140737488355328 := by omega
        clear hm hv0 hml
        go_enter Tryz.func108, Tryz.ntmps108
        go_wp2_with fail
        refine HVar.out.mono ?_
        rintro e w1 ⟨rfl, hg, hr⟩
        have HBy := Lib.hid (Oct.bytes_yes b g r1 m w1 hr HML.out hm2)
        have HG1 := Lib.hid hg
        clear hg hr
        dsimp only
        go_wp2_with fail
        refine HBy.out.mono ?_
        rintro e w2 hrb
        obtain ⟨x, q, rfl, hq, hown, hg2, hr2⟩ := hrb.value
        have hcv := Tx.conv_own hown
        have HF : Hid (OneX b g w (some (.string (strOfNums (r1.take m)), r1.drop m)) (.returned (.tuple #[.string (strOfNums (r1.take m)), .int .i64 0])) w2) := Lib.hid
          ⟨(turn_read HG1.out).trans (turn_read hg2) (fun _ _ h => h), _, _, _, rfl, hr2, In.isB_drop HR1.out m, by rw [List.length_drop]; have := HR2.out; omega, rfl, rfl, rfl⟩
        clear hq hown hg2 hr2 hrb HG1
        dsimp only
        go_wp2
        go_ret2
        exact HF.out
  · rw [if_pos (.inl he)]
    dsimp only
    clear hvb
    go_enter Tryz.func108, Tryz.ntmps108
    go_wp2_with fail
    refine HVar.out.mono ?_
    rintro e w1 ⟨rfl, hg, hr⟩
    have HF : Hid (OneX b g w none (.returned (.tuple #[.string ⟨#[]⟩, .int .i64 4])) w1) := Lib.hid ⟨turn_read hg, _, _, _, rfl, hr, HR1.out, HR2.out, (by show (4 : Int) ≠ 0; decide)⟩
    clear hg hr
    dsimp only
    go_wp2
    go_ret2
    exact HF.out
end Go.Proofs.YtljanfnhmhimiaaGreat.Sg

namespace Go.Proofs.YtljanfnhmhimiaaGreat.Sg
open Go.RowKit Go.Joins Zn Zr
open Dv (Turn nowhere)
open In (RR RRead sg)

theorem turn_new {w w1 w2 : World} {b g : Nat} (h : Turn w w1 (In.At b)) (k : Turn w1 w2 (· = g)) (hg : w.heap.size ≤ g) : Turn w w2 (In.At b) :=
  ⟨k.os.trans h.os, k.tape.trans h.tape, k.output.trans h.output, Nat.le_trans h.size k.size, fun i hi hn => (k.block i (Nat.lt_of_lt_of_le hi h.size) (fun e => by omega)).trans (h.block i hi hn)⟩
theorem wpList_store_cell {w : World} {ops : Array Oper} {rest : List Oper} {o : Oper} {a : Act} {Q : Exit → Act → World → Prop} (hgd : o.guard = none) (x y : Operand) (ho : o.op = .store 24 x y)
    (g : Nat) (hx : a.eval x = .pointer (some ⟨g, 0, none⟩)) (c : Cel) (hy : a.eval y = .agg #[.int .i64 c.k, .int .i64 c.n, .string c.s]) (q : Cel) (hg : CB w g q)
    (h : ∀ w', CB w' g c → Turn w w' (· = g) → wpList Tryz.prog ops Q rest (a.put o.dst undef) w') : wpList Tryz.prog ops Q (o :: rest) a w := by
  refine wpList_store_row hgd _ x y ho g _ hx hy _ _ hg info_cell2 rfl (by simp [Value.oneCell']) ?_
  exact h _ (setRow_heap w g _ _ _ _ hg) ⟨rfl, rfl, rfl, by simp [World.setRow], fun k _ hk => setRow_other w g k _ hk⟩
end Go.Proofs.YtljanfnhmhimiaaGreat.Sg

namespace Go.Proofs.YtljanfnhmhimiaaGreat.Sg
open Go.RowKit Go.Joins Bs Dv Zn Zr

set_option maxRecDepth 100000 in
/-- a coder is not nil -/
theorem nil_no {w : World} {kind : Int} {v : Value} (h : CodV w kind v) : ∀ W, (binOp .eql 63 v .nilIface).run Tryz.prog W = .ok (.bool false) W := by
  rcases h with ⟨_, b, rfl, _⟩ | ⟨_, rfl⟩ | ⟨_, b, rfl, _⟩
  · exact fun W => by kernel_rfl
  · exact fun W => by kernel_rfl
  · exact fun W => by kernel_rfl
theorem nil_guard {w : World} {kind : Int} {v : Value} (h : CodV w kind v) : ∀ (x y : Operand) (W : World), (eqGuard .eql 63 x y v .nilIface).run Tryz.prog W = .ok () W := by
  rcases h with ⟨_, b, rfl, _⟩ | ⟨_, rfl⟩ | ⟨_, b, rfl, _⟩
  · exact fun x y W => rfl
  · exact fun x y W => rfl
  · exact fun x y W => rfl
theorem nil_yes : ∀ W, (binOp .eql 63 .nilIface .nilIface).run Tryz.prog W = .ok (.bool true) W := fun W => by kernel_rfl

set_option maxRecDepth 100000 in
set_option maxHeartbeats 4000000 in
theorem Check_any (kind : Int) (a : Option Addr) (n c : Nat) (l : List Cel) (w : World) (hs : CSeg w a n c l) :
    Calls Tryz.prog 19 #[.int .i64 kind, .slice a n c] w fun e w' => e = .returned (.int .i64 (checkS kind l)) ∧ w.grownBy w' none := by
  have HS := Lib.hid hs
  have HL := Lib.hid hs.len
  have hcap := hs.le
  have hcap2 := hs.cap
  unfold maxLen at hcap2
  obtain ⟨E, hE⟩ : ∃ E, E = checkS kind l := ⟨_, rfl⟩
  rw [← hE]
  unfold checkS at hE
  rw [HL.out] at hE
  clear hs
  by_cases k1 : kind < 1 ∨ 3 < kind
  · rw [if_pos k1] at hE
    subst hE
    have HC := Lib.hid (fun W => coderOf_no kind W k1)
    have hny := nil_yes
    clear k1
    go_enter Tryz.func19, Tryz.ntmps19
    go_wp2_with fail
    refine (HC.out _).mono ?_
    rintro e w1 ⟨rfl, rfl⟩
    go_wp2
    go_ret
    exact ⟨rfl, grown_refl _⟩
  rw [if_neg k1] at hE
  have HC := Lib.hid (fun W => coderOf_any kind W (by omega) (by omega))
  by_cases hm : 4096 < n
  · rw [if_pos hm] at hE
    subst hE
    have hm' : (4096 : Int) < (n : Int) := by omega
    clear k1
    go_enter Tryz.func19, Tryz.ntmps19
    go_wp2_with fail
    refine (HC.out _).mono ?_
    rintro e w1 ⟨v, rfl, hv, ht⟩
    have hnn := nil_no hv
    have hng := nil_guard hv
    have HG := Lib.hid ht.grown
    clear hv ht
    dsimp only
    go_wp2
    go_ret
    exact ⟨rfl, HG.out⟩
  rw [if_neg hm] at hE
  have HE := Lib.hid hE
  have hm' : ¬ (4096 : Int) < (n : Int) := by omega
  clear hE k1
  go_enter Tryz.func19, Tryz.ntmps19
  go_wp2_with fail
  refine (HC.out _).mono ?_
  rintro e w1 ⟨v, rfl, hv, ht⟩
  have hnn := nil_no hv
  have hng := nil_guard hv
  have HG1 := Lib.hid ht.grown
  clear hv ht
  dsimp only
  go_wp2
  clear hnn hng
  go_loopw [16] (fun iv wx => ∃ k : Nat, iv = .int .i64 k ∧ k ≤ n ∧ E = firstE kind (l.drop k) ∧ w.grownBy wx none) (fun iv _ => n - (intOf iv).toNat)
  case atStart => exact ⟨0, rfl, Nat.zero_le _, HE.out, HG1.out⟩
  case round =>
    obtain ⟨k, rfl, hk, he, hg⟩ := hrel
    have HG := Lib.hid hg
    have HK := Lib.hid he
    clear hg he HE HG1
    by_cases hlt : k < n
    · obtain ⟨B, O, rfl, hcs⟩ := (HS.out.old HG.out).form (by omega)
      obtain ⟨c0, c1, c2⟩ := hcs k hlt
      clear hcs
      have HD := Lib.hid (HK.out.trans (first_drop (by rw [HL.out]; exact hlt)))
      obtain ⟨x, hx⟩ : ∃ x, x = l.getD k zeroC := ⟨_, rfl⟩
      rw [← hx] at c0 c1 c2 HD
      have HX := Lib.hid (fun W => Cell_any x W)
      obtain ⟨r, hr⟩ : ∃ r, r = cellE x := ⟨_, rfl⟩
      rw [← hr] at HX HD
      have HXE := Lib.hid hx
      clear hx hr HK
      go_wp2_with fail
      refine (HX.out _).mono ?_
      rintro e wk ⟨rfl, hg⟩
      have BX := Lib.hid ((CB.new wr x).old hg)
      have HG := Lib.hid (grown_then (grown_then HG.out (grown_alloc _ _)) hg)
      clear hg c0 c1 c2
      obtain ⟨c0, c1, c2⟩ := BX.out.cells
      dsimp only
      by_cases h0 : r = 0
      · have q0 : (r != 0) = false := by rw [h0]; rfl
        have HD2 := Lib.hid (HD.out.trans (if_neg (by rw [h0]; simp)))
        clear HD h0
        by_cases h2 : x.k = 0
        · have q2 : (x.k != 0) = false := by rw [h2]; rfl
          have HF := Lib.hid (HD2.out.trans (if_neg (fun e => e.2 h2)))
          clear HD2 h2
          go_wp2
          go_roundw
          case rel => exact ⟨k + 1, by go_num, by omega, HF.out, HG.out⟩
          case measure => simp [intOf]; omega
        · have q2 : (x.k != 0) = true := bne_iff_ne.2 h2
          by_cases h1 : x.k = kind
          · have q1 : (x.k != kind) = false := by rw [h1]; exact bne_self_eq_false _
            have HF := Lib.hid (HD2.out.trans (if_neg (fun e => e.1 h1)))
            clear HD2 h1 h2
            go_wp2
            go_roundw
            case rel => exact ⟨k + 1, by go_num, by omega, HF.out, HG.out⟩
            case measure => simp [intOf]; omega
          · have q1 : (x.k != kind) = true := bne_iff_ne.2 h1
            have HF := Lib.hid (HD2.out.trans (if_pos ⟨h1, h2⟩))
            clear HD2 h1 h2
            go_wp2
            go_ret
            exact ⟨ret_int HF.out.symm, HG.out⟩
      · have q0 : (r != 0) = true := bne_iff_ne.2 h0
        have HD2 := Lib.hid (HD.out.trans (if_pos h0))
        clear HD h0
        go_wp2
        go_ret
        exact ⟨ret_int HD2.out.symm, HG.out⟩
    · obtain rfl : k = n := by omega
      have HF : Hid (E = 0) := Lib.hid (by rw [HK.out, List.drop_of_length_le (by rw [HL.out]; exact Nat.le_refl _)]; rfl)
      clear hlt HK
      go_wp2
      go_ret
      exact ⟨ret_int HF.out.symm, HG.out⟩
end Go.Proofs.YtljanfnhmhimiaaGreat.Sg

namespace Go.Proofs.YtljanfnhmhimiaaGreat.Sg
open Go.RowKit Go.Joins Zn Zr Dv

theorem null_take {l : List Cel} {k : Nat} (h : k < l.length) : nullsL (l.take (k + 1)) = nullsL (l.take k) ++ [decide ((l.getD k zeroC).k = 0)] := by
  rw [take_snoc l k h, nulls_app]; rfl
/-- part's answer: two own rows -/
def PartX (w : World) (l : List Cel) (n m : Nat) (e : Ending) (w' : World) : Prop :=
  ∃ a c b d, e = .returned (.tuple #[.slice a n c, .slice b m d]) ∧ w'.ownsRow w.heap.size 4 1 (.slice a n c) n ((nullsL l).map Value.bool) ∧ w'.ownsRow w.heap.size 24 3 (.slice b m d) m (flatC (someL l)) ∧ Turn w w' nowhere
theorem slice_of {w : World} {base e s n : Nat} {v : Value} {xs : List Value} (h : w.ownsRow base e s v n xs) : ∃ a c, v = .slice a n c := by
  rcases h.2 with ⟨rfl, h0⟩ | ⟨g, cap, cur, rfl, _⟩
  · subst h0; exact ⟨none, 0, rfl⟩
  · exact ⟨_, _, rfl⟩

set_option maxRecDepth 100000 in
set_option maxHeartbeats 4000000 in
theorem part_any (a : Option Addr) (n c m : Nat) (l : List Cel) (w : World) (hs : CSeg w a n c l) (hn : n ≤ 65536) (hm : (someL l).length = m) : Calls Tryz.prog 27 #[.slice a n c] w (PartX w l n m) := by
  obtain ⟨i0, ii, iz0, iz1, iz2⟩ := infoC_parts
  obtain ⟨j0, ji, jz0, jz1, jz2⟩ := info_parts Bl.info_bool
  have HS := Lib.hid hs
  have HL := Lib.hid hs.len
  have HM := Lib.hid hm
  clear hs hm
  go_enter Tryz.func27, Tryz.ntmps27
  go_wp2
  go_loopw [2, 3, 8] (fun nv sv iv wx => ∃ (k : Nat) (VN VS : Value), iv = .int .i64 k ∧ k ≤ n ∧ VN = nv ∧ VS = sv ∧ wx.ownsRow w.heap.size 4 1 VN k ((nullsL (l.take k)).map Value.bool) ∧ wx.ownsRow w.heap.size 24 3 VS (someL (l.take k)).length (flatC (someL (l.take k))) ∧ w.grownBy wx none) (fun _ _ iv _ => n - (intOf iv).toNat)
  case atStart => exact ⟨0, _, _, rfl, Nat.zero_le _, rfl, rfl, World.ownsRow_nil _ _ _ _, World.ownsRow_nil _ _ _ _, grown_refl _⟩
  case round =>
    obtain ⟨k, VN, VS, rfl, hk, rfl, rfl, rn, rs, hg⟩ := hrel
    have HG := Lib.hid hg
    have RN := Lib.hid rn
    have RS := Lib.hid rs
    have hgs := hg.size
    clear rn rs hg
    by_cases hlt : k < n
    · obtain ⟨B, O, rfl, hcs⟩ := (HS.out.old HG.out).form (by omega)
      obtain ⟨x, hx⟩ : ∃ x, x = l.getD k zeroC := ⟨_, rfl⟩
      have HXE := Lib.hid hx
      have hkl : k < l.length := by rw [HL.out]; exact hlt
      have ht := some_take hkl
      have hu := null_take hkl
      rw [← hx] at ht hu
      have HT := Lib.hid ht
      have HU := Lib.hid hu
      have hlen : (someL (l.take k)).length ≤ k := by
        have h1 := cnt_nulls (l.take k)
        rw [List.length_take] at h1
        omega
      clear hcs hx ht hu hkl
      have hlt2 : (k : Int) < (n : Int) := by omega
      obtain ⟨c0, c1, c2⟩ := cells_at (HS.out.old HG.out) hlt HXE.out
      by_cases hx0 : x.k = 0
      · have q1 : (x.k == 0) = true := beq_iff_eq.2 hx0
        have q2 : (x.k != 0) = false := by rw [bne, q1]; rfl
        have HT2 := Lib.hid (HT.out.trans (if_pos hx0))
        rw [decide_eq_true hx0] at HU
        clear hx0 HT
        go_upto_region 5 with (at_builtin; refine wpList_append_own _ rfl _ _ 44 rfl w.heap.size 4 j0 (.bool false) 1 1 Tryz.underlying44 ji jz0 jz1 jz2 rfl (by decide) VN k _ rfl (((RN.out.alloc _)).alloc _) ⟨wr.heap.size + 1, 0, none⟩ 1 1 [.bool true] rfl rfl (by intro y u hy; match y, hy with | 0, hy => simp at hy; subst hy; simp [Addr.add]) (by intro u hu; simp at hu; subst hu; rfl) (by unfold maxLen; omega) (by omega) (by simp; omega) ?_; intro V4 w4 hown4 hg4 hnil4)
        have RN4 : Hid (w4.ownsRow w.heap.size 4 1 V4 (k + 1) ((nullsL (l.take (k + 1))).map Value.bool)) := Lib.hid (by rw [HU.out, List.map_append]; exact hown4)
        have RS4 := Lib.hid (own_keep ((RS.out.alloc _).alloc _) hg4 (own_apart RS.out RN.out (by decide)))
        have HG4 := Lib.hid (Bs.grownBy_trans (grown_then (grown_then HG.out (grown_alloc _ _)) (grown_alloc _ _)) hg4 (fun i e => (RN.out.lt i e).1))
        have BX : Hid (CB w4 wr.heap.size x) := Lib.hid (by
          unfold CB
          rw [hg4.block wr.heap.size (by simp; omega) (fun e => by have := (RN.out.lt _ e.symm).2; omega)]
          exact (CB.new wr x).old (grown_alloc _ (.cells #[.bool true] 4)))
        clear hown4 hg4 hnil4 c0 c1 c2 RN RS HG
        obtain ⟨c0, c1, c2⟩ := BX.out.cells
        go_wp2
        go_roundw
        case rel => exact ⟨k + 1, _, _, by go_num, by omega, rfl, rfl, RN4.out, by rw [HT2.out]; exact RS4.out, HG4.out⟩
        case measure => simp [intOf]; omega
      · have q1 : (x.k == 0) = false := beq_eq_false_iff_ne.2 hx0
        have q2 : (x.k != 0) = true := by rw [bne, q1]; rfl
        have HT2 := Lib.hid (HT.out.trans (if_neg hx0))
        rw [decide_eq_false hx0] at HU
        clear hx0 HT
        go_upto_region 5 with (at_builtin; refine wpList_append_own _ rfl _ _ 44 rfl w.heap.size 4 j0 (.bool false) 1 1 Tryz.underlying44 ji jz0 jz1 jz2 rfl (by decide) VN k _ rfl (((RN.out.alloc _)).alloc _) ⟨wr.heap.size + 1, 0, none⟩ 1 1 [.bool false] rfl rfl (by intro y u hy; match y, hy with | 0, hy => simp at hy; subst hy; simp [Addr.add]) (by intro u hu; simp at hu; subst hu; rfl) (by unfold maxLen; omega) (by omega) (by simp; omega) ?_; intro V4 w4 hown4 hg4 hnil4)
        have RN4 : Hid (w4.ownsRow w.heap.size 4 1 V4 (k + 1) ((nullsL (l.take (k + 1))).map Value.bool)) := Lib.hid (by rw [HU.out, List.map_append]; exact hown4)
        have RS4 := Lib.hid (own_keep ((RS.out.alloc _).alloc _) hg4 (own_apart RS.out RN.out (by decide)))
        have HG4 := Lib.hid (Bs.grownBy_trans (grown_then (grown_then HG.out (grown_alloc _ _)) (grown_alloc _ _)) hg4 (fun i e => (RN.out.lt i e).1))
        have BX : Hid (CB w4 wr.heap.size x) := Lib.hid (by
          unfold CB
          rw [hg4.block wr.heap.size (by simp; omega) (fun e => by have := (RN.out.lt _ e.symm).2; omega)]
          exact (CB.new wr x).old (grown_alloc _ (.cells #[.bool false] 4)))
        clear hown4 hg4 hnil4 c0 c1 c2 RN RS HG
        obtain ⟨c0, c1, c2⟩ := BX.out.cells
        have HB4 := HG4.out.size
        go_wp2_with (at_builtin; refine wpList_append_own _ rfl _ _ 26 rfl w.heap.size 24 i0 (.agg #[.int .i64 0, .int .i64 0, .string ⟨#[]⟩]) 3 32 Tryz.underlying26 ii iz0 iz1 iz2 rfl (by decide) VS (someL (l.take k)).length _ rfl (RS4.out.alloc _) ⟨w4.heap.size, 0, none⟩ 1 1 (flatC [x]) rfl rfl (cell_lit w4 x) (by intro u hu; simp [flatC] at hu; rcases hu with rfl | rfl | rfl <;> rfl) (by unfold maxLen; omega) (by omega) (by simp; omega) ?_; intro V5 w5 hown5 hg5 hnil5)
        have RN5 := Lib.hid (own_keep (RN4.out.alloc _) hg5 (own_apart RN4.out RS4.out (by decide)))
        have HG5 := Lib.hid (Bs.grownBy_trans (grown_then HG4.out (grown_alloc _ _)) hg5 (fun i e => (RS4.out.lt i e).1))
        have RS5 : Hid (w5.ownsRow w.heap.size 24 3 V5 (someL (l.take (k + 1))).length (flatC (someL (l.take (k + 1))))) := Lib.hid (by
          rw [HT2.out, List.length_append, flatC_app]
          exact hown5)
        clear hown5 hg5 hnil5 c0 c1 c2 RN4 RS4 HG4 HB4 BX
        go_wp2
        go_roundw
        case rel => exact ⟨k + 1, _, _, by go_num, by omega, rfl, rfl, RN5.out, RS5.out, HG5.out⟩
        case measure => simp [intOf]; omega
    · obtain rfl : k = n := by omega
      have hT : l.take k = l := List.take_of_length_le (by rw [HL.out]; exact Nat.le_refl _)
      rw [hT] at RN RS
      rw [HM.out] at RS
      obtain ⟨an, cn, rfl⟩ := slice_of RN.out
      obtain ⟨ao, cs, rfl⟩ := slice_of RS.out
      have HF : Hid (PartX w l k m (.returned (.tuple #[.slice an k cn, .slice ao m cs])) wr) := Lib.hid ⟨_, _, _, _, rfl, RN.out, RS.out, Pk.turn_of HG.out⟩
      clear hT RN RS hlt
      go_wp2
      go_ret2
      exact HF.out
end Go.Proofs.YtljanfnhmhimiaaGreat.Sg
