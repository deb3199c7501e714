/-
  What the program's and the document's functions do, in memory and as plain functions: SgRCell, SgRBody, SgRPut, SgLaw, SgBackL, SgZoneL, SgOrderL, SgCoder, SgOne, SgGet1.
-/
import Derived.Lib.SmallJoins
import Derived.Deep.RegionHeld3
import Derived.Deep.RegionWith
import Derived.Laws.Concat
import Derived.BigRegion
import Derived.Test.YtljanfnhmhimiaaGreatSrD
import Derived.Test.YtljanfnhmhimiaaGreatSrE
import Derived.Test.YtljanfnhmhimiaaGreatSrH
import Derived.Test.YtljanfnhmhimiaaGreatSrK
import Derived.Test.YtljanfnhmhimiaaGreatSrL
import Derived.Test.YtljanfnhmhimiaaGreatSrM
import Derived.Test.YtljanfnhmhimiaaGreatSrP
import Derived.Test.YtljanfnhmhimiaaGreatSrS
import Derived.Test.YtljanfnhmhimiaaGreatSrV
import Derived.Test.YtljanfnhmhimiaaGreatSrW
import Derived.Test.YtljanfnhmhimiaaGreatSrX
import Derived.Test.YtljanfnhmhimiaaGreatSrY
import Derived.Test.YtljanfnhmhimiaaGreatSrZ
import Derived.Test.YtljanfnhmhimiaaGreatSrb
import Derived.Test.YtljanfnhmhimiaaGreatSrc

namespace Go.Proofs.YtljanfnhmhimiaaGreat.Sg
open Go.RowKit Go.Joins Zn Zr
open Is (IsI info_i64)
open Bs (info_u8)

theorem own_keep {w w' : World} {base e s n : Nat} {v : Value} {xs : List Value} {o : Option Nat} (h : w.ownsRow base e s v n xs) (hg : w.grownBy w' o) (hne : ∀ g, v.ownBlock = some g → o ≠ some g) : w'.ownsRow base e s v n xs := by
  obtain ⟨hl, h⟩ := h
  refine ⟨hl, ?_⟩
  rcases h with ⟨rfl, h0⟩ | ⟨g, cap, cur, rfl, hb, hgg, rest⟩
  · exact .inl ⟨rfl, h0⟩
  · refine .inr ⟨g, cap, cur, rfl, hb, ?_, rest⟩
    rw [hg.block g (Array.getElem?_eq_some_iff.1 hgg).1 (fun e => hne g rfl e.symm)]
    exact hgg
theorem own_apart {w : World} {base e1 e2 s1 s2 n1 n2 : Nat} {v1 v2 : Value} {xs ys : List Value} (h1 : w.ownsRow base e1 s1 v1 n1 xs) (h2 : w.ownsRow base e2 s2 v2 n2 ys) (hne : e1 ≠ e2) : ∀ g, v1.ownBlock = some g → v2.ownBlock ≠ some g := by
  intro g e1' e2'
  rcases h1.2 with ⟨rfl, _⟩ | ⟨g1, cap1, cur1, rfl, _, hg1, _⟩
  · cases e1'
  · rcases h2.2 with ⟨rfl, _⟩ | ⟨g2, cap2, cur2, rfl, _, hg2, _⟩
    · cases e2'
    · obtain rfl : g1 = g := Option.some.inj e1'
      obtain rfl : g2 = g1 := Option.some.inj e2'
      rw [hg1] at hg2
      injection hg2 with hg2
      injection hg2 with _ h3 _
      exact hne h3
def intV (c : Cel) : Value := .int .i64 c.n
def bitV (c : Cel) : Value := .int .u64 (In.u c.n)
def strV (c : Cel) : Value := .string c.s
theorem map_snoc {f : Cel → Value} {l : List Cel} {k : Nat} (h : k < l.length) : (l.take (k + 1)).map f = (l.take k).map f ++ [f (l.getD k zeroC)] := by
  rw [take_snoc l k h, List.map_append]; rfl
theorem int_row (l : List Cel) : l.map intV = (l.map (·.n)).map (Value.int .i64) := by rw [List.map_map]; rfl
theorem bit_row (l : List Cel) : l.map bitV = (l.map fun c => In.u c.n).map (Value.int .u64) := by rw [List.map_map]; rfl
theorem str_row (l : List Cel) : l.map strV = (l.map fun c => nm c.s).map Ss.encW := by
  rw [List.map_map]
  refine List.map_congr_left fun c _ => ?_
  show Value.string c.s = Value.string (strOfNums (nm c.s))
  rw [str_nm]

end Go.Proofs.YtljanfnhmhimiaaGreat.Sg

namespace Go.Proofs.YtljanfnhmhimiaaGreat.Sg
open Go.RowKit Go.Joins Zn Zr
open Is (IsI info_i64)
open Bs (info_u8)
open Nu (roomF encN cnt)

theorem some_take {l : List Cel} {k : Nat} (h : k < l.length) : someL (l.take (k + 1)) = if (l.getD k zeroC).k = 0 then someL (l.take k) else someL (l.take k) ++ [l.getD k zeroC] := by
  rw [take_snoc l k h, some_app, some_cons]
  by_cases e : (l.getD k zeroC).k = 0
  · rw [if_pos e, if_pos e, show someL [] = [] from rfl, List.append_nil]
  · rw [if_neg e, if_neg e, show someL [] = [] from rfl]
/-- a literal of one cell -/
theorem cell_lit (W : World) (x : Cel) : ∀ (j : Nat) (u : Value), (flatC [x])[j]? = some u → (W.alloc (.cells #[.int .i64 x.k, .int .i64 x.n, .string x.s] 24)).cell? ((⟨W.heap.size, 0, none⟩ : Addr).add j) = some u := by
  have h := (CSeg.lit W [x] (by simp)).at_ _ rfl
  exact h
theorem cseg_row {w : World} {base m : Nat} {v : Value} {l : List Cel} (h : w.ownsRow base 24 3 v m (flatC l)) (hl : l.length = m) : ∃ a c, v = .slice a m c ∧ CSeg w a m c l := by
  rcases h.2 with ⟨rfl, h0⟩ | ⟨g, cap, cur, rfl, _⟩
  · subst h0
    obtain rfl : l = [] := List.length_eq_zero_iff.1 hl
    exact ⟨none, 0, rfl, CSeg.nil w⟩
  · exact ⟨_, _, rfl, CSeg.own h⟩
theorem own_grow {w w' : World} {base e s n : Nat} {v : Value} {xs : List Value} (h : w.ownsRow base e s v n xs) (k : w.grownBy w' none) : w'.ownsRow base e s v n xs := own_keep h k (fun _ _ e => by cases e)
theorem celok_bit {kind : Int} {c : Cel} (h : CelOk kind c) : c.k = 2 → 0 ≤ c.n ∧ c.n < 256 := fun e => by
  rcases cell_form h.ok with q | q | q | q
  · omega
  · omega
  · have := q.2.1; omega
  · omega
theorem cellB_len {kind : Int} {c : Cel} (h : CelOk kind c) : (cellB c).length ≤ 65600 := by
  have hs := cell_len h.ok
  unfold cellB
  by_cases e1 : c.k = 1
  · rw [if_pos e1, In.num8_length]; omega
  · rw [if_neg e1]
    by_cases e2 : c.k = 2
    · rw [if_pos e2]; simp
    · rw [if_neg e2]
      have := Tx.strB_len (nm c.s)
      rw [nm_len] at this
      omega
theorem cseg_at {w : World} {base m c : Nat} {a : Option Addr} {l : List Cel} (h : w.ownsRow base 24 3 (.slice a m c) m (flatC l)) (hl : l.length = m) : CSeg w a m c l := by
  obtain ⟨a', c', e, hs⟩ := cseg_row h hl
  cases e
  exact hs
theorem body_len (kind : Int) {l : List Cel} (hl : l.length ≤ 4096) (h : ∀ c ∈ l, CelOk kind c) : (bodyS kind l).length ≤ 300000000 := by
  unfold bodyS
  by_cases e1 : kind = 1
  · rw [if_pos e1]
    have h1 := In.encB_len 1 (l.map (·.n)) (by rw [List.length_map]; exact hl)
    have h2 := In.encB_len 2 (l.map (·.n)) (by rw [List.length_map]; exact hl)
    have h3 := In.encB_len 3 (l.map (·.n)) (by rw [List.length_map]; exact hl)
    rw [In.best_len]
    omega
  · rw [if_neg e1]
    by_cases e2 : kind = 2
    · rw [if_pos e2]
      have := Pk.put_len (l.map (·.n)) 1
      omega
    · rw [if_neg e2]
      have hb : (Tx.bestT (l.map fun c => nm c.s)).length ≤ (Tx.plainT (l.map fun c => nm c.s)).length := by
        unfold Tx.bestT
        split <;> omega
      have hs := Tx.strsB_len (l.map fun c => nm c.s) (fun s hs => by
        obtain ⟨c, hc, rfl⟩ := List.mem_map.1 hs
        rw [nm_len]
        exact cell_len (h c hc).ok)
      have hv := Oct.varB_le 9 ((l.map fun c => nm c.s).length : Int)
      unfold Tx.plainT at hb
      rw [List.length_cons, List.length_append] at hb
      rw [List.length_map] at hs hv hb
      have h4 : l.length * 65546 ≤ 4096 * 65546 := Nat.mul_le_mul_right _ hl
      omega
end Go.Proofs.YtljanfnhmhimiaaGreat.Sg

namespace Go.Proofs.YtljanfnhmhimiaaGreat.Sg
open Go.RowKit Go.Joins Zn Zr
open Nu (encN)

theorem cell_isB {c : Cel} (hi : c.k = 2 → 0 ≤ c.n ∧ c.n < 256) (hs : c.s.size ≤ 65536) : Oct.IsB (cellB c) := by
  unfold cellB
  by_cases e1 : c.k = 1
  · rw [if_pos e1]; exact In.num8_isB _
  · rw [if_neg e1]
    by_cases e2 : c.k = 2
    · rw [if_pos e2]
      intro x hx
      obtain rfl : x = c.n := by simpa using hx
      exact hi e2
    · rw [if_neg e2]
      exact Tx.strB_isB (nm_isB _) (by rw [nm_len]; omega)
theorem body_isB (kind : Int) {l : List Cel} (hl : l.length ≤ 4096) (h : ∀ c ∈ l, CelOk kind c) : Oct.IsB (bodyS kind l) := by
  unfold bodyS
  by_cases e1 : kind = 1
  · rw [if_pos e1]
    rcases In.best_cases (l.map (·.n)) with e | e | e <;> rw [e]
    · exact In.encB_isB 1 _ (by omega) (by rw [List.length_map]; omega)
    · exact In.encB_isB 2 _ (by omega) (by rw [List.length_map]; omega)
    · exact In.encB_isB 3 _ (by omega) (by rw [List.length_map]; omega)
  · rw [if_neg e1]
    by_cases e2 : kind = 2
    · rw [if_pos e2]; exact (Pk.put_isB _ _).isB
    · rw [if_neg e2]
      have hO : Tx.OkT (l.map fun c => nm c.s) := ⟨by rw [List.length_map]; exact hl, fun s hs => by
        obtain ⟨c, hc, rfl⟩ := List.mem_map.1 hs
        rw [nm_len]
        exact cell_len (h c hc).ok⟩
      have hA : Tx.AllB (l.map fun c => nm c.s) := fun s hs => by
        obtain ⟨c, hc, rfl⟩ := List.mem_map.1 hs
        exact nm_isB _
      unfold Tx.bestT
      split
      · exact Tx.dict_isB' hO hA
      · exact Tx.plain_isB' hO hA
theorem enc_isB {kind : Int} {l : List Cel} (h : Col kind l) : Oct.IsB (encS kind l) := by
  have k1 := h.k1
  have k3 := h.k3
  unfold encS
  intro x hx
  rcases List.mem_cons.1 hx with rfl | hx
  · omega
  · rcases List.mem_append.1 hx with hx | hx
    · exact Nu.enc_isB (by rw [nulls_len]; have := h.few; omega) x hx
    · unfold tailS at hx
      by_cases hs : someL l = []
      · rw [if_pos hs] at hx; cases hx
      · rw [if_neg hs] at hx
        obtain ⟨o1, o2, _⟩ := min_of h hs
        rcases List.mem_append.1 hx with hx | hx
        · exact cell_isB (celok_bit o1) (cell_len o1.ok) x hx
        · rcases List.mem_append.1 hx with hx | hx
          · exact cell_isB (celok_bit o2) (cell_len o2.ok) x hx
          · exact body_isB kind (by have h1 := cnt_nulls l; have := h.few; omega) h.some x hx
theorem body_few (kind : Int) {l : List Cel} (hl : l.length ≤ 300) (h : ∀ c ∈ l, CelOk kind c) : (bodyS kind l).length ≤ 30000000 := by
  unfold bodyS
  by_cases e1 : kind = 1
  · rw [if_pos e1]
    have h1 := In.encB_len 1 (l.map (·.n)) (by rw [List.length_map]; omega)
    have h2 := In.encB_len 2 (l.map (·.n)) (by rw [List.length_map]; omega)
    have h3 := In.encB_len 3 (l.map (·.n)) (by rw [List.length_map]; omega)
    rw [In.best_len]
    omega
  · rw [if_neg e1]
    by_cases e2 : kind = 2
    · rw [if_pos e2]
      have := Pk.put_len (l.map (·.n)) 1
      omega
    · rw [if_neg e2]
      have hb : (Tx.bestT (l.map fun c => nm c.s)).length ≤ (Tx.plainT (l.map fun c => nm c.s)).length := by
        unfold Tx.bestT
        split <;> omega
      have hs := Tx.strsB_len (l.map fun c => nm c.s) (fun s hs => by
        obtain ⟨c, hc, rfl⟩ := List.mem_map.1 hs
        rw [nm_len]
        exact cell_len (h c hc).ok)
      have hv := Oct.varB_le 9 ((l.map fun c => nm c.s).length : Int)
      unfold Tx.plainT at hb
      rw [List.length_cons, List.length_append] at hb
      rw [List.length_map] at hs hv hb
      have h4 : l.length * 65546 ≤ 300 * 65546 := Nat.mul_le_mul_right _ hl
      omega
theorem enc_few {kind : Int} {l : List Cel} (h : Col kind l) (hl : l.length ≤ 300) : (encS kind l).length ≤ 40000000 := by
  obtain ⟨e, _, _⟩ := enc_shape kind l
  have hn := Nu.enc_len (l := nullsL l) (by rw [nulls_len]; omega)
  have hc := cnt_nulls l
  rw [e]
  unfold tailS
  by_cases hs : someL l = []
  · rw [if_pos hs, List.length_nil]; omega
  · rw [if_neg hs]
    obtain ⟨o1, o2, _⟩ := min_of h hs
    have h1 := cellB_len o1
    have h2 := cellB_len o2
    have h3 := body_few kind (l := someL l) (by omega) h.some
    rw [List.length_append, List.length_append]
    omega
theorem neq_zone (a b : Zon) (w : World) :
    (binOp .neq 33 (.agg #[.int .i64 a.cnt, .int .i64 a.nul, .int .i64 a.min.k, .int .i64 a.min.n, .string a.min.s, .int .i64 a.max.k, .int .i64 a.max.n, .string a.max.s]) (.agg #[.int .i64 b.cnt, .int .i64 b.nul, .int .i64 b.min.k, .int .i64 b.min.n, .string b.min.s, .int .i64 b.max.k, .int .i64 b.max.n, .string b.max.s])).run Tryz.prog w = .ok (.bool (!eqZ a b)) w := by
  rw [run_neq_struct, equal_zone 9997]
  rfl

/-! ### what the program's functions tell -/
def PutC : Prop := ∀ (kind : Int) (a : Option Addr) (n c : Nat) (l : List Cel) (w : World), CSeg w a n c l → IntOk l → StrsOk l → n ≤ 65536 →
  Calls Tryz.prog 11 #[.int .i64 kind, .slice a n c] w fun e w' => e = .returned (.tuple #[.string (strOfNums (putS kind l).2), .int .i64 (putS kind l).1]) ∧ w.grownBy w' none
def CheckC : Prop := ∀ (kind : Int) (a : Option Addr) (n c : Nat) (l : List Cel) (w : World), CSeg w a n c l → IntOk l → StrsOk l → n ≤ 65536 →
  Calls Tryz.prog 19 #[.int .i64 kind, .slice a n c] w fun e w' => e = .returned (.int .i64 (checkS kind l)) ∧ w.grownBy w' none
/-- Get's answer: kind, cells, error -/
def outS (s : List Int) : Int × List Cel × Int := match getS s with
  | some (k, l) => (k, l, 0)
  | none => (0, [], 4)
def GetC : Prop := ∀ (s : List Int) (w : World), Bs.IsB s → s.length ≤ 100000000 → Calls Tryz.prog 12 #[.string (strOfNums s)] w fun e w' =>
  ∃ a c, e = .returned (.tuple #[.int .i64 (outS s).1, .slice a (outS s).2.1.length c, .int .i64 (outS s).2.2]) ∧ CSeg w' a (outS s).2.1.length c (outS s).2.1 ∧ w.grownBy w' none
def ZoneC : Prop := ∀ (s : List Int) (w : World), Bs.IsB s → s.length ≤ 100000000 → Calls Tryz.prog 13 #[.string (strOfNums s)] w fun e w' =>
  e = .returned (.tuple #[.int .i64 (zoneS s).1, .agg #[.int .i64 (zoneS s).2.1.cnt, .int .i64 (zoneS s).2.1.nul, .int .i64 (zoneS s).2.1.min.k, .int .i64 (zoneS s).2.1.min.n, .string (zoneS s).2.1.min.s, .int .i64 (zoneS s).2.1.max.k, .int .i64 (zoneS s).2.1.max.n, .string (zoneS s).2.1.max.s], .int .i64 (zoneS s).2.2]) ∧ w.grownBy w' none

set_option maxRecDepth 100000 in
set_option maxHeartbeats 1000000 in
theorem light_any (a : Option Addr) (n c : Nat) (l : List Cel) (w : World) (hs : CSeg w a n c l) (ho : StrsOk l) :
    Calls Tryz.prog 15 #[.slice a n c] w (LightX n 60 w) := by
  have H := Lib.hid (lightCells_any a n c l w hs ho)
  clear hs ho
  go_enter Tryz.func15, Tryz.ntmps15
  go_wp2_with fail
  refine H.out.mono ?_
  rintro e w' ⟨b, rfl, hb, rfl⟩
  have HB := Lib.hid hb
  clear hb
  dsimp only
  go_wp2
  go_ret
  exact ⟨b, rfl, HB.out, rfl⟩

def l2 : List Cel := [⟨2, 1, ⟨#[]⟩⟩, zeroC]
theorem put_l2 : putS 2 l2 = (0, [2, 2, 2, 2, 1, 1, 1]) := by decide +kernel
set_option maxRecDepth 100000 in
set_option maxHeartbeats 2000000 in
theorem lives_any (HP : PutC) (w : World) : Calls Tryz.prog 9 #[] w fun e w' => e = .returned (.bool true) ∧ w.grownBy w' none := by
  have hl : CSeg (w.alloc (.cells #[.int .i64 2, .int .i64 1, .string ⟨#[]⟩, .int .i64 0, .int .i64 0, .string ⟨#[]⟩] 24)) (some ⟨w.heap.size, 0, none⟩) 2 2 l2 := CSeg.lit w l2 (by decide)
  have hp := HP 2 _ 2 2 l2 _ hl (fun x hx => by
    rcases List.mem_cons.1 hx with rfl | hx
    · decide
    · obtain rfl : x = zeroC := by simpa using hx
      decide) (fun x hx => by
    rcases List.mem_cons.1 hx with rfl | hx
    · show (0 : Nat) ≤ 140737488355328; omega
    · obtain rfl : x = zeroC := by simpa using hx
      show (0 : Nat) ≤ 140737488355328; omega) (by decide)
  rw [put_l2] at hp
  obtain ⟨S, hS⟩ : ∃ S, S = strOfNums [2, 2, 2, 2, 1, 1, 1] := ⟨_, rfl⟩
  have hp2 := hp.mono fun e w' (h : _ ∧ _) => (show e = .returned (.tuple #[.string S, .int .i64 0]) ∧ (w.alloc (.cells #[.int .i64 2, .int .i64 1, .string ⟨#[]⟩, .int .i64 0, .int .i64 0, .string ⟨#[]⟩] 24)).grownBy w' none from ⟨by rw [h.1, hS], h.2⟩)
  have q1 : (S.toList == ([2, 2, 2, 2, 1, 1, 1] : List UInt8)) = true := by rw [hS, Go.ByteArray.toList_eq]; decide +kernel
  have HPP := Lib.hid hp2
  clear hp hp2 hl hS HP
  go_enter Tryz.func9, Tryz.ntmps9
  go_wp2_with fail
  refine HPP.out.mono ?_
  rintro e w1 ⟨rfl, hg⟩
  have G1 := Lib.hid (grown_then (grown_alloc w _) hg)
  clear hg HPP
  dsimp only
  go_wp2
  go_ret
  exact ⟨rfl, G1.out⟩
end Go.Proofs.YtljanfnhmhimiaaGreat.Sg

namespace Go.Proofs.YtljanfnhmhimiaaGreat.Sg
open Go.RowKit Go.Joins Zn Zr
open Nu (encN)

theorem out_enc {kind : Int} {l : List Cel} (h : Col kind l) (hi : IntOk l) : outS (encS kind l) = (kind, l, 0) := by
  unfold outS; rw [get_enc h hi]
theorem celsOk {kind : Int} {l : List Cel} (h : Col kind l) : StrsOk l := fun x hx => by
  have := cell_len (h.ok x hx).1
  omega

set_option maxRecDepth 100000 in
set_option maxHeartbeats 8000000 in
theorem back_any (HP : PutC) (HC : CheckC) (HG : GetC) (HZ : ZoneC) (kind : Int) (a : Option Addr) (n c : Nat) (l : List Cel) (s : List Int) (w : World) (hs : CSeg w a n c l) (ho : StrsOk l) (hi : IntOk l) (hb : Bs.IsB s) (hsl : s.length ≤ 140737488355328) :
    Calls Tryz.prog 5 #[.int .i64 kind, .slice a n c, .string (strOfNums s)] w fun e w' => e = .returned (.bool true) ∧ Below w.heap.size w w' := by
  have HS := Lib.hid hs
  have HL := Lib.hid hs.len
  have HOK := Lib.hid ho
  have HI := Lib.hid hi
  have HB := Lib.hid hb
  have HSZ := Lib.hid (strOfNums_size s)
  have HP1 := Lib.hid HP
  have HC1 := Lib.hid HC
  have HG1 := Lib.hid HG
  have HZ1 := Lib.hid HZ
  clear hs ho hi hb HP HC HG HZ
  obtain ⟨S, hS⟩ : ∃ S, S = strOfNums s := ⟨_, rfl⟩
  rw [← hS]
  have hsz : S.size = s.length := by rw [hS]; exact HSZ.out
  have HSS := Lib.hid hS
  clear hS
  go_enter Tryz.func5, Tryz.ntmps5
  go_wp2_with fail
  refine (lives_any HP1.out _).mono ?_
  rintro e w1 ⟨rfl, hg⟩
  have G1 := Lib.hid hg
  clear hg
  dsimp only
  go_wp2_with fail
  refine (light_any a n c l _ (HS.out.old G1.out) HOK.out).mono ?_
  rintro e wl ⟨lb, rfl, hlb, rfl⟩
  have HLB := Lib.hid hlb
  clear hlb
  cases lb
  · dsimp only
    go_wp2
    go_ret
    exact ⟨rfl, below_of G1.out⟩
  have hn60 : n ≤ 60 := HLB.out rfl
  clear HLB
  dsimp only
  by_cases h600 : 600 < s.length
  · have q6 : (600 : Int) < (S.size : Int) := by omega
    go_wp2
    go_ret
    exact ⟨rfl, below_of G1.out⟩
  have q6 : ¬ (600 : Int) < (S.size : Int) := by omega
  obtain ⟨E, hE⟩ : ∃ E, E = checkS kind l := ⟨_, rfl⟩
  obtain ⟨B, hB⟩ : ∃ B, B = (putS kind l).2 := ⟨_, rfl⟩
  have HPU := Lib.hid (HP1.out kind a n c l w1 (HS.out.old G1.out) HI.out HOK.out (by omega))
  rw [put_e, ← hE, ← hB] at HPU
  obtain ⟨T, hT⟩ : ∃ T, T = strOfNums B := ⟨_, rfl⟩
  rw [← hT] at HPU
  have HEB : Hid (E = 0 → Col kind l ∧ B = encS kind l) := Lib.hid (fun h => by
    have hc : Col kind l := check_iff.1 (by rw [← hE]; exact h)
    exact ⟨hc, by rw [hB, put_of hc]⟩)
  have HTT := Lib.hid hT
  have HEE := Lib.hid hE
  clear hE hB hT
  go_wp2_with fail
  refine HPU.out.mono ?_
  rintro e w2 ⟨rfl, hg⟩
  have G2 := Lib.hid (grown_then G1.out hg)
  clear hg HPU G1
  dsimp only
  have HCU := Lib.hid (HC1.out kind a n c l w2 (HS.out.old G2.out) HI.out HOK.out (by omega))
  rw [← HEE.out] at HCU
  go_wp2_with fail
  refine HCU.out.mono ?_
  rintro e w3 ⟨rfl, hg⟩
  have G3 := Lib.hid (grown_then G2.out hg)
  clear hg HCU G2
  dsimp only
  obtain ⟨gk, hgk⟩ : ∃ v, v = (outS s).1 := ⟨_, rfl⟩
  obtain ⟨gl, hgl⟩ : ∃ v, v = (outS s).2.1 := ⟨_, rfl⟩
  obtain ⟨ge, hge⟩ : ∃ v, v = (outS s).2.2 := ⟨_, rfl⟩
  have HOUT : Hid ((ge = 4 ∧ gl = []) ∨ (ge = 0 ∧ Col gk gl ∧ IntOk gl ∧ s = encS gk gl)) := Lib.hid (by
    rw [hgk, hgl, hge]
    unfold outS
    cases e : getS s with
    | none => exact .inl ⟨rfl, rfl⟩
    | some p =>
      obtain ⟨k, m⟩ := p
      exact .inr ⟨rfl, (get_some e).1, get_int HB.out e, (get_some e).2⟩)
  have HGS : Hid (∀ W, Calls Tryz.prog 12 #[.string S] W fun e w' => ∃ a c, e = .returned (.tuple #[.int .i64 gk, .slice a gl.length c, .int .i64 ge]) ∧ CSeg w' a gl.length c gl ∧ W.grownBy w' none) := Lib.hid (fun W => by
    have h := HG1.out s W HB.out (by omega)
    rw [← hgk, ← hgl, ← hge, ← HSS.out] at h
    exact h)
  clear hgk hgl hge
  by_cases h0 : E = 0
  · have q0 : (E == 0) = true := beq_iff_eq.2 h0
    obtain ⟨hcol, hBe⟩ := HEB.out h0
    have HGB : Hid (∀ W, Calls Tryz.prog 12 #[.string T] W fun e w' => ∃ a c, e = .returned (.tuple #[.int .i64 kind, .slice a n c, .int .i64 0]) ∧ CSeg w' a n c l ∧ W.grownBy w' none) := Lib.hid (fun W => by
      have h := HG1.out (encS kind l) W (enc_isB hcol) (Nat.le_trans (enc_few hcol (by rw [HL.out]; omega)) (by omega))
      rw [out_enc hcol HI.out] at h
      dsimp only at h
      rw [HL.out, ← hBe, ← HTT.out] at h
      exact h)
    obtain ⟨z, hz⟩ : ∃ z, z = ofZ l := ⟨_, rfl⟩
    have HZB : Hid (∀ W, Calls Tryz.prog 13 #[.string T] W fun e w' => e = .returned (.tuple #[.int .i64 kind, .agg #[.int .i64 z.cnt, .int .i64 z.nul, .int .i64 z.min.k, .int .i64 z.min.n, .string z.min.s, .int .i64 z.max.k, .int .i64 z.max.n, .string z.max.s], .int .i64 0]) ∧ W.grownBy w' none) := Lib.hid (fun W => by
      have h := HZ1.out (encS kind l) W (enc_isB hcol) (Nat.le_trans (enc_few hcol (by rw [HL.out]; omega)) (by omega))
      have hz2 := zone_enc hcol HI.out []
      rw [List.append_nil] at hz2
      rw [hz2] at h
      dsimp only at h
      rw [← hz, ← hBe, ← HTT.out] at h
      exact h)
    have HOF := Lib.hid (fun W (h : CSeg W a n c l) => rof_any a n c l W h (by omega))
    rw [← hz] at HOF
    have HNQ : Hid (∀ W, (binOp .neq 33 (.agg #[.int .i64 z.cnt, .int .i64 z.nul, .int .i64 z.min.k, .int .i64 z.min.n, .string z.min.s, .int .i64 z.max.k, .int .i64 z.max.n, .string z.max.s]) (.agg #[.int .i64 z.cnt, .int .i64 z.nul, .int .i64 z.min.k, .int .i64 z.min.n, .string z.min.s, .int .i64 z.max.k, .int .i64 z.max.n, .string z.max.s])).run Tryz.prog W = .ok (.bool false) W) := Lib.hid (fun W => by
      have h := neq_zone z z W
      rwa [eqZ_self] at h)
    clear h0 hcol hBe hz HEB HEE
    go_wp2_with fail
    refine (HGB.out _).mono ?_
    rintro e w4 ⟨a4, c4, rfl, hs4, hg⟩
    have S4 := Lib.hid hs4
    have G4 := Lib.hid (grown_then G3.out hg)
    clear hg hs4 HGB G3
    dsimp only
    go_wp2_with fail
    refine (HZB.out _).mono ?_
    rintro e w5 ⟨rfl, hg⟩
    have S5 := Lib.hid (S4.out.old hg)
    have G5 := Lib.hid (grown_then G4.out hg)
    clear hg HZB G4 S4
    dsimp only
    go_upto_region 11 with (fail)
    obtain ⟨W6, hW6⟩ : ∃ V, w5.alloc (.cells #[.int .i64 z.cnt, .int .i64 z.nul, .int .i64 z.min.k, .int .i64 z.min.n, .string z.min.s, .int .i64 z.max.k, .int .i64 z.max.n, .string z.max.s] 33) = V := ⟨_, rfl⟩
    have hg : w5.grownBy W6 none := by rw [← hW6]; exact grown_alloc _ _
    have ZB6 : Hid (ZB W6 w5.heap.size z) := Lib.hid (by rw [← hW6]; exact ZB.new w5 z)
    have S6 := Lib.hid (S5.out.old hg)
    have G6 := Lib.hid (grown_then G5.out hg)
    rw [hW6]
    clear hW6 hg S5 G5
    generalize w5.heap.size = gz at *
    have HSM : Hid (∀ q : Gw W6, Calls Tryz.prog 14 #[.slice a4 n c4, .slice a n c] q.at_ fun e w' => e = .returned (.bool true) ∧ q.at_.grownBy w' none) := Lib.hid (fun q => by
      have h := csame_any a4 a n n c4 c l l q.at_ (S6.out.old q.grown) (HS.out.old (grown_then G6.out q.grown))
      rwa [show sameC l l = true from decide_eq_true rfl] at h)
    have HOQ : Hid (∀ q : Gw W6, Calls Tryz.prog 21 #[.slice a n c] q.at_ fun e w' => e = .returned (.agg #[.int .i64 z.cnt, .int .i64 z.nul, .int .i64 z.min.k, .int .i64 z.min.n, .string z.min.s, .int .i64 z.max.k, .int .i64 z.max.n, .string z.max.s]) ∧ q.at_.grownBy w' none) := Lib.hid (fun q => HOF.out q.at_ (HS.out.old (grown_then G6.out q.grown)))
    have hnq := HNQ.out
    obtain ⟨z0, z1, ⟨z2, z3, z4⟩, z5, z6, z7⟩ := ZB6.out.gw
    clear HOF HNQ
    refine wp_region_grow (by kernel_rfl) ?_
    repeat (go_big_quiet_step (first | (go_at_call 14; with_reducible exact Calls.grow_of (HSM.out _)) | (go_at_call 21; with_reducible exact Calls.grow_of (HOQ.out _)) | fail))
    refine wpQuiet_nil ?_
    rintro _ ⟨p, rfl⟩
    have G7 := Lib.hid (grown_then G6.out p.grown)
    clear z0 z1 z2 z3 z4 z5 z6 z7 hnq HSM HOQ ZB6 S6 G6
    generalize p.at_ = w7 at *
    clear p
    go_wp2_with fail
    refine (HGS.out _).mono ?_
    rintro e w8 ⟨a8, c8, rfl, hs8, hg⟩
    have S8 := Lib.hid hs8
    have G8 := Lib.hid (grown_then G7.out hg)
    clear hg hs8 HGS G7
    dsimp only
    rcases HOUT.out with ⟨rfl, rfl⟩ | ⟨rfl, hcol, hint, hse⟩
    · clear HOUT S8
      go_wp2
      go_ret
      exact ⟨rfl, below_of G8.out⟩
    · have hfew := hcol.few
      have HPS := Lib.hid (HP1.out gk a8 gl.length c8 gl w8 S8.out hint (celsOk hcol) (by omega))
      rw [put_of hcol, ← hse, ← HSS.out] at HPS
      have qs : (S.toList == S.toList) = true := by rw [toList_beq]; exact decide_eq_true rfl
      clear HOUT S8 hcol hint hse hfew
      go_wp2_with fail
      refine HPS.out.mono ?_
      rintro e w9 ⟨rfl, hg⟩
      have G9 := Lib.hid (grown_then G8.out hg)
      clear hg HPS G8
      dsimp only
      go_wp2
      go_ret
      exact ⟨rfl, below_of G9.out⟩
  · have q0 : (E == 0) = false := beq_eq_false_iff_ne.2 h0
    clear h0 HEB HEE
    go_wp2_with fail
    refine (HGS.out _).mono ?_
    rintro e w8 ⟨a8, c8, rfl, hs8, hg⟩
    have S8 := Lib.hid hs8
    have G8 := Lib.hid (grown_then G3.out hg)
    clear hg hs8 HGS G3
    dsimp only
    rcases HOUT.out with ⟨rfl, rfl⟩ | ⟨rfl, hcol, hint, hse⟩
    · clear HOUT S8
      go_wp2
      go_ret
      exact ⟨rfl, below_of G8.out⟩
    · have hfew := hcol.few
      have HPS := Lib.hid (HP1.out gk a8 gl.length c8 gl w8 S8.out hint (celsOk hcol) (by omega))
      rw [put_of hcol, ← hse, ← HSS.out] at HPS
      have qs : (S.toList == S.toList) = true := by rw [toList_beq]; exact decide_eq_true rfl
      clear HOUT S8 hcol hint hse hfew
      go_wp2_with fail
      refine HPS.out.mono ?_
      rintro e w9 ⟨rfl, hg⟩
      have G9 := Lib.hid (grown_then G8.out hg)
      clear hg HPS G8
      dsimp only
      go_wp2
      go_ret
      exact ⟨rfl, below_of G9.out⟩
end Go.Proofs.YtljanfnhmhimiaaGreat.Sg

namespace Go.Proofs.YtljanfnhmhimiaaGreat.Sg
open Go.RowKit Go.Joins Zn Zr
open Nu (encN)

set_option maxRecDepth 100000 in
set_option maxHeartbeats 8000000 in
theorem zone_any (HP : PutC) (HZ : ZoneC) (kind : Int) (a : Option Addr) (n c : Nat) (l : List Cel) (cut : Int) (s : List Int) (w : World) (hs : CSeg w a n c l) (ho : StrsOk l) (hi : IntOk l) (hb : Bs.IsB s) (hsl : s.length ≤ 140737488355328) :
    Calls Tryz.prog 6 #[.int .i64 kind, .slice a n c, .int .i64 cut, .string (strOfNums s)] w fun e w' => e = .returned (.bool true) ∧ Below w.heap.size w w' := by
  have HS := Lib.hid hs
  have HL := Lib.hid hs.len
  have HOK := Lib.hid ho
  have HI := Lib.hid hi
  have HB := Lib.hid hb
  have HSZ := Lib.hid (strOfNums_size s)
  have HP1 := Lib.hid HP
  have HZ1 := Lib.hid HZ
  clear hs ho hi hb HP HZ
  obtain ⟨S, hS⟩ : ∃ S, S = strOfNums s := ⟨_, rfl⟩
  rw [← hS]
  have hsz : S.size = s.length := by rw [hS]; exact HSZ.out
  have HSS := Lib.hid hS
  clear hS
  go_enter Tryz.func6, Tryz.ntmps6
  go_wp2_with fail
  refine (lives_any HP1.out _).mono ?_
  rintro e w1 ⟨rfl, hg⟩
  have G1 := Lib.hid hg
  clear hg
  dsimp only
  go_wp2_with fail
  refine (light_any a n c l _ (HS.out.old G1.out) HOK.out).mono ?_
  rintro e wl ⟨lb, rfl, hlb, rfl⟩
  have HLB := Lib.hid hlb
  clear hlb
  cases lb
  · dsimp only
    go_wp2
    go_ret
    exact ⟨rfl, below_of G1.out⟩
  have hn60 : n ≤ 60 := HLB.out rfl
  clear HLB
  dsimp only
  by_cases h600 : 600 < s.length
  · have q6 : (600 : Int) < (S.size : Int) := by omega
    go_wp2
    go_ret
    exact ⟨rfl, below_of G1.out⟩
  have q6 : ¬ (600 : Int) < (S.size : Int) := by omega
  obtain ⟨zk, hzk⟩ : ∃ v, v = (zoneS s).1 := ⟨_, rfl⟩
  obtain ⟨y, hy⟩ : ∃ v, v = (zoneS s).2.1 := ⟨_, rfl⟩
  obtain ⟨ze, hze⟩ : ∃ v, v = (zoneS s).2.2 := ⟨_, rfl⟩
  have HMAY : Hid ((ze = 0 ∧ checkE y zk = 0) ∨ (ze = 4 ∧ y = zeroZ)) := Lib.hid (by
    rcases zone_may HB.out with ⟨h1, h2⟩ | h
    · rw [hzk, hy, hze]; exact .inl ⟨h1, h2⟩
    · rw [hy, hze, h]; exact .inr ⟨rfl, rfl⟩)
  have HZS := Lib.hid (HZ1.out s w1 HB.out (by omega))
  rw [← hzk, ← hy, ← hze, ← HSS.out] at HZS
  obtain ⟨E, hE⟩ : ∃ E, E = checkS kind l := ⟨_, rfl⟩
  obtain ⟨B, hB⟩ : ∃ B, B = (putS kind l).2 := ⟨_, rfl⟩
  obtain ⟨T, hT⟩ : ∃ T, T = strOfNums B := ⟨_, rfl⟩
  obtain ⟨z, hz⟩ : ∃ z, z = ofZ l := ⟨_, rfl⟩
  have HPU : Hid (∀ W, CSeg W a n c l → Calls Tryz.prog 11 #[.int .i64 kind, .slice a n c] W fun e w' => e = .returned (.tuple #[.string T, .int .i64 E]) ∧ W.grownBy w' none) := Lib.hid (fun W h => by
    have h1 := HP1.out kind a n c l W h HI.out HOK.out (by omega)
    rwa [put_e, ← hE, ← hB, ← hT] at h1)
  have HZT : Hid (E = 0 → T.size + S.size ≤ 9223372036854775807 ∧ ∀ W, Calls Tryz.prog 13 #[.string (T ++ S)] W fun e w' => e = .returned (.tuple #[.int .i64 kind, .agg #[.int .i64 z.cnt, .int .i64 z.nul, .int .i64 z.min.k, .int .i64 z.min.n, .string z.min.s, .int .i64 z.max.k, .int .i64 z.max.n, .string z.max.s], .int .i64 0]) ∧ W.grownBy w' none) := Lib.hid (fun h => by
    have hc : Col kind l := check_iff.1 (by rw [← hE]; exact h)
    have hBe : B = encS kind l := by rw [hB, put_of hc]
    have hfew := enc_few hc (by rw [HL.out]; omega)
    refine ⟨by rw [hT, strOfNums_size, hBe, hsz]; omega, fun W => ?_⟩
    have h1 := HZ1.out (encS kind l ++ s) W (fun x hx => (List.mem_append.1 hx).elim (enc_isB hc x) (HB.out x)) (by rw [List.length_append]; omega)
    rw [zone_enc hc HI.out s] at h1
    dsimp only at h1
    rw [← hz, ← Dv.str_append, ← hBe, ← hT, ← HSS.out] at h1
    exact h1)
  have HOF := Lib.hid (fun W (h : CSeg W a n c l) => rof_any a n c l W h (by omega))
  rw [← hz] at HOF
  clear hzk hy hze hE hB hT hz
  go_wp2_with fail
  refine HZS.out.mono ?_
  rintro e w2 ⟨rfl, hg⟩
  have G2 := Lib.hid (grown_then G1.out hg)
  clear hg HZS G1
  dsimp only
  go_upto_region 6 with (fail)
  obtain ⟨W3, hW3⟩ : ∃ V, w2.alloc (.cells #[.int .i64 y.cnt, .int .i64 y.nul, .int .i64 y.min.k, .int .i64 y.min.n, .string y.min.s, .int .i64 y.max.k, .int .i64 y.max.n, .string y.max.s] 33) = V := ⟨_, rfl⟩
  have hg : w2.grownBy W3 none := by rw [← hW3]; exact grown_alloc _ _
  have Y3 : Hid (ZB W3 w2.heap.size y) := Lib.hid (by rw [← hW3]; exact ZB.new w2 y)
  have G3 := Lib.hid (grown_then G2.out hg)
  rw [hW3]
  clear hW3 hg G2
  generalize w2.heap.size = gy at *
  obtain ⟨z0, z1, ⟨z2, z3, z4⟩, z5, z6, z7⟩ := Y3.out.cells
  rcases HMAY.out with ⟨rfl, hck⟩ | ⟨rfl, hyz⟩
  · have HCK := Lib.hid (rzcheck_any y zk W3)
    rw [hck] at HCK
    clear hck HMAY
    go_wp2_with fail
    refine HCK.out.mono ?_
    rintro e w4 ⟨rfl, hg⟩
    have G4 := Lib.hid (grown_then G3.out hg)
    clear hg HCK G3 Y3 z0 z1 z2 z3 z4 z5 z6 z7
    dsimp only
    go_wp2_with fail
    refine (HPU.out _ (HS.out.old G4.out)).mono ?_
    rintro e w5 ⟨rfl, hg⟩
    have G5 := Lib.hid (grown_then G4.out hg)
    clear hg HPU G4
    dsimp only
    by_cases h0 : E = 0
    · have q0 : (E != 0) = false := by rw [h0]; rfl
      obtain ⟨hsum, hzt⟩ := HZT.out h0
      have HZU := Lib.hid hzt
      have hsum2 : ¬ 9223372036854775807 < T.size + S.size := by omega
      clear h0 HZT hzt
      go_wp2_with fail
      refine (HZU.out _).mono ?_
      rintro e w6 ⟨rfl, hg⟩
      have G6 := Lib.hid (grown_then G5.out hg)
      clear hg HZU G5
      dsimp only
      go_upto_region 12 with (fail)
      obtain ⟨W7, hW7⟩ : ∃ V, w6.alloc (.cells #[.int .i64 z.cnt, .int .i64 z.nul, .int .i64 z.min.k, .int .i64 z.min.n, .string z.min.s, .int .i64 z.max.k, .int .i64 z.max.n, .string z.max.s] 33) = V := ⟨_, rfl⟩
      have hg : w6.grownBy W7 none := by rw [← hW7]; exact grown_alloc _ _
      have Z7 : Hid (ZB W7 w6.heap.size z) := Lib.hid (by rw [← hW7]; exact ZB.new w6 z)
      have G7 := Lib.hid (grown_then G6.out hg)
      rw [hW7]
      clear hW7 hg G6
      generalize w6.heap.size = gz at *
      have HOQ : Hid (∀ q : Gw W7, Calls Tryz.prog 21 #[.slice a n c] q.at_ fun e w' => e = .returned (.agg #[.int .i64 z.cnt, .int .i64 z.nul, .int .i64 z.min.k, .int .i64 z.min.n, .string z.min.s, .int .i64 z.max.k, .int .i64 z.max.n, .string z.max.s]) ∧ q.at_.grownBy w' none) := Lib.hid (fun q => HOF.out q.at_ (HS.out.old (grown_then G7.out q.grown)))
      have hez : ∀ W, (binOp .eql 33 (.agg #[.int .i64 z.cnt, .int .i64 z.nul, .int .i64 z.min.k, .int .i64 z.min.n, .string z.min.s, .int .i64 z.max.k, .int .i64 z.max.n, .string z.max.s]) (.agg #[.int .i64 z.cnt, .int .i64 z.nul, .int .i64 z.min.k, .int .i64 z.min.n, .string z.min.s, .int .i64 z.max.k, .int .i64 z.max.n, .string z.max.s])).run Tryz.prog W = .ok (.bool true) W := fun W => by
        have h := eql_zone z z W
        rwa [eqZ_self] at h
      obtain ⟨z0, z1, ⟨z2, z3, z4⟩, z5, z6, z7⟩ := Z7.out.gw
      refine wp_region_grow (by kernel_rfl) ?_
      repeat (go_big_quiet_step (first | (go_at_call 21; with_reducible exact Calls.grow_of (HOQ.out _)) | fail))
      refine wpQuiet_nil ?_
      rintro _ ⟨p, rfl⟩
      have G8 := Lib.hid (grown_then G7.out p.grown)
      go_wp2
      go_ret
      exact ⟨rfl, below_of G8.out⟩
    · have q0 : (E != 0) = true := bne_iff_ne.2 h0
      clear h0 HZT
      go_wp2
      go_ret
      exact ⟨rfl, below_of G5.out⟩
  · have hnz : ∀ W, (binOp .neq 33 (.agg #[.int .i64 y.cnt, .int .i64 y.nul, .int .i64 y.min.k, .int .i64 y.min.n, .string y.min.s, .int .i64 y.max.k, .int .i64 y.max.n, .string y.max.s]) (.agg #[.int .i64 0, .int .i64 0, .int .i64 0, .int .i64 0, .string ⟨#[]⟩, .int .i64 0, .int .i64 0, .string ⟨#[]⟩])).run Tryz.prog W = .ok (.bool false) W := fun W => by
      have h := neq_zone y zeroZ W
      rw [show eqZ y zeroZ = true from eqZ_iff.2 hyz] at h
      exact h
    have G4 := G3
    clear hyz HMAY G3 Y3
    go_wp2_with fail
    clear z0 z1 z2 z3 z4 z5 z6 z7 hnz
    refine (HPU.out _ (HS.out.old G4.out)).mono ?_
    rintro e w5 ⟨rfl, hg⟩
    have G5 := Lib.hid (grown_then G4.out hg)
    clear hg HPU G4
    dsimp only
    by_cases h0 : E = 0
    · have q0 : (E != 0) = false := by rw [h0]; rfl
      obtain ⟨hsum, hzt⟩ := HZT.out h0
      have HZU := Lib.hid hzt
      have hsum2 : ¬ 9223372036854775807 < T.size + S.size := by omega
      clear h0 HZT hzt
      go_wp2_with fail
      refine (HZU.out _).mono ?_
      rintro e w6 ⟨rfl, hg⟩
      have G6 := Lib.hid (grown_then G5.out hg)
      clear hg HZU G5
      dsimp only
      go_upto_region 12 with (fail)
      obtain ⟨W7, hW7⟩ : ∃ V, w6.alloc (.cells #[.int .i64 z.cnt, .int .i64 z.nul, .int .i64 z.min.k, .int .i64 z.min.n, .string z.min.s, .int .i64 z.max.k, .int .i64 z.max.n, .string z.max.s] 33) = V := ⟨_, rfl⟩
      have hg : w6.grownBy W7 none := by rw [← hW7]; exact grown_alloc _ _
      have Z7 : Hid (ZB W7 w6.heap.size z) := Lib.hid (by rw [← hW7]; exact ZB.new w6 z)
      have G7 := Lib.hid (grown_then G6.out hg)
      rw [hW7]
      clear hW7 hg G6
      generalize w6.heap.size = gz at *
      have HOQ : Hid (∀ q : Gw W7, Calls Tryz.prog 21 #[.slice a n c] q.at_ fun e w' => e = .returned (.agg #[.int .i64 z.cnt, .int .i64 z.nul, .int .i64 z.min.k, .int .i64 z.min.n, .string z.min.s, .int .i64 z.max.k, .int .i64 z.max.n, .string z.max.s]) ∧ q.at_.grownBy w' none) := Lib.hid (fun q => HOF.out q.at_ (HS.out.old (grown_then G7.out q.grown)))
      have hez : ∀ W, (binOp .eql 33 (.agg #[.int .i64 z.cnt, .int .i64 z.nul, .int .i64 z.min.k, .int .i64 z.min.n, .string z.min.s, .int .i64 z.max.k, .int .i64 z.max.n, .string z.max.s]) (.agg #[.int .i64 z.cnt, .int .i64 z.nul, .int .i64 z.min.k, .int .i64 z.min.n, .string z.min.s, .int .i64 z.max.k, .int .i64 z.max.n, .string z.max.s])).run Tryz.prog W = .ok (.bool true) W := fun W => by
        have h := eql_zone z z W
        rwa [eqZ_self] at h
      obtain ⟨z0, z1, ⟨z2, z3, z4⟩, z5, z6, z7⟩ := Z7.out.gw
      refine wp_region_grow (by kernel_rfl) ?_
      repeat (go_big_quiet_step (first | (go_at_call 21; with_reducible exact Calls.grow_of (HOQ.out _)) | fail))
      refine wpQuiet_nil ?_
      rintro _ ⟨p, rfl⟩
      have G8 := Lib.hid (grown_then G7.out p.grown)
      go_wp2
      go_ret
      exact ⟨rfl, below_of G8.out⟩
    · have q0 : (E != 0) = true := bne_iff_ne.2 h0
      clear h0 HZT
      go_wp2
      go_ret
      exact ⟨rfl, below_of G5.out⟩
end Go.Proofs.YtljanfnhmhimiaaGreat.Sg

namespace Go.Proofs.YtljanfnhmhimiaaGreat.Sg
open Go.RowKit Go.Joins Bs Dv Zn Zr

theorem row_froz {w : World} {base g n c : Nat} {xs : List Value} (h : w.ownsRow base 24 3 (.slice (some ⟨g, 0, none⟩) n c) n xs) (j : Nat) : w.frozen? ⟨g, j, none⟩ = false := h.frozenAt j

set_option maxRecDepth 100000 in
set_option maxHeartbeats 8000000 in
theorem order_any (HP : PutC) (HZ : ZoneC) (kind : Int) (a : Option Addr) (n c : Nat) (l : List Cel) (pa pb : Int) (w : World) (hs : CSeg w a n c l) (ho : StrsOk l) (hi : IntOk l) :
    Calls Tryz.prog 8 #[.int .i64 kind, .slice a n c, .int .i64 pa, .int .i64 pb] w fun e w' => e = .returned (.bool true) ∧ Below w.heap.size w w' := by
  have HS := Lib.hid hs
  have HL := Lib.hid hs.len
  have HOK := Lib.hid ho
  have HI := Lib.hid hi
  have HP1 := Lib.hid HP
  have HZ1 := Lib.hid HZ
  clear hs ho hi HP HZ
  go_enter Tryz.func8, Tryz.ntmps8
  go_wp2_with fail
  refine (lives_any HP1.out _).mono ?_
  rintro e w1 ⟨rfl, hg⟩
  have G1 := Lib.hid hg
  clear hg
  dsimp only
  go_wp2_with fail
  refine (light_any a n c l _ (HS.out.old G1.out) HOK.out).mono ?_
  rintro e wl ⟨lb, rfl, hlb, rfl⟩
  have HLB := Lib.hid hlb
  clear hlb
  cases lb
  · dsimp only
    go_wp2
    go_ret
    exact ⟨rfl, below_of G1.out⟩
  have hn60 : n ≤ 60 := HLB.out rfl
  clear HLB
  dsimp only
  by_cases hn0 : n = 0
  · have q0 : ((n : Int) == 0) = true := beq_iff_eq.2 (by omega)
    clear hn0
    go_wp2
    go_ret
    exact ⟨rfl, below_of G1.out⟩
  have q0 : ((n : Int) == 0) = false := beq_eq_false_iff_ne.2 (by omega)
  have HPA := Lib.hid (fun W => pick_any pa (n : Int) W (by omega) (by omega))
  have HPB := Lib.hid (fun W => pick_any pb (n : Int) W (by omega) (by omega))
  have hra := pick_range pa (n : Int) (by omega)
  have hrb := pick_range pb (n : Int) (by omega)
  obtain ⟨i, hia⟩ : ∃ i : Nat, pick pa (n : Int) = (i : Int) := ⟨(pick pa (n : Int)).toNat, by omega⟩
  obtain ⟨j, hjb⟩ : ∃ j : Nat, pick pb (n : Int) = (j : Int) := ⟨(pick pb (n : Int)).toNat, by omega⟩
  rw [hia] at HPA hra
  rw [hjb] at HPB hrb
  have hin : i < n := by omega
  have hjn : j < n := by omega
  clear hia hjb hn0
  go_wp2_with fail
  refine (HPA.out _).mono ?_
  rintro e w' ⟨rfl, rfl⟩
  dsimp only
  go_wp2_with fail
  refine (HPB.out _).mono ?_
  rintro e w' ⟨rfl, rfl⟩
  clear HPA HPB
  dsimp only
  go_wp2_with fail
  refine (own_any a n c l w1 (HS.out.old G1.out) (by omega)).mono ?_
  rintro e w2 ⟨gm, cm, rfl, hrow, hg⟩
  have G2 := Lib.hid (grown_then G1.out hg)
  have RM := Lib.hid hrow
  have hw1 : w.heap.size ≤ w1.heap.size := G1.out.size
  clear hg hrow G1
  dsimp only
  have FI := (CSeg.own RM.out).cells0 i hin
  have FJ := (CSeg.own RM.out).cells0 j hjn
  obtain ⟨x, hx⟩ : ∃ x, x = l.getD i zeroC := ⟨_, rfl⟩
  obtain ⟨y, hy⟩ : ∃ y, y = l.getD j zeroC := ⟨_, rfl⟩
  rw [← hx] at FI
  rw [← hy] at FJ
  have HX := Lib.hid hx
  have HY := Lib.hid hy
  clear hx hy
  obtain ⟨x0, x1, x2⟩ := FI
  obtain ⟨y0, y1, y2⟩ := FJ
  have f0 := row_froz RM.out (i * 3)
  have f1 := row_froz RM.out (i * 3 + 1)
  have f2 := row_froz RM.out (i * 3 + 2)
  have f3 := row_froz RM.out (j * 3)
  have f4 := row_froz RM.out (j * 3 + 1)
  have f5 := row_froz RM.out (j * 3 + 2)
  obtain ⟨v0, A0⟩ := cell?_setCell_some (w := w2) (p := ⟨gm, i * 3, none⟩) (x := .int .i64 y.k) (q := ⟨gm, j * 3, none⟩) y0
  obtain ⟨_, B1⟩ := cell?_setCell_some (w := w2) (p := ⟨gm, i * 3, none⟩) (x := .int .i64 y.k) (q := ⟨gm, j * 3 + 1, none⟩) y1
  obtain ⟨v1, A1⟩ := cell?_setCell_some (p := ⟨gm, i * 3 + 1, none⟩) (x := .int .i64 y.n) B1
  obtain ⟨_, B2⟩ := cell?_setCell_some (w := w2) (p := ⟨gm, i * 3, none⟩) (x := .int .i64 y.k) (q := ⟨gm, j * 3 + 2, none⟩) y2
  obtain ⟨_, B3⟩ := cell?_setCell_some (p := ⟨gm, i * 3 + 1, none⟩) (x := .int .i64 y.n) B2
  obtain ⟨v2, A2⟩ := cell?_setCell_some (p := ⟨gm, i * 3 + 2, none⟩) (x := .string y.s) B3
  clear B1 B2 B3
  have hlt1 : (i : Int) < (n : Int) := by omega
  have hlt2 : (j : Int) < (n : Int) := by omega
  go_upto_region 7 with (fail)
  go_region
  have hil : i < l.length := by rw [HL.out]; exact hin
  have hjl : j < l.length := by rw [HL.out]; exact hjn
  have hr1 := row_set RM.out i y hil
  have hr2 := row_set hr1.1 j x (by rw [List.length_set]; exact hjl)
  obtain ⟨W3, hW3⟩ : ∃ V, ((((((w2.setCell ⟨gm, i * 3, none⟩ (.int .i64 y.k)).setCell ⟨gm, i * 3 + 1, none⟩ (.int .i64 y.n)).setCell ⟨gm, i * 3 + 2, none⟩ (.string y.s)).setCell ⟨gm, j * 3, none⟩ (.int .i64 x.k)).setCell ⟨gm, j * 3 + 1, none⟩ (.int .i64 x.n)).setCell ⟨gm, j * 3 + 2, none⟩ (.string x.s)).drew = V := ⟨_, rfl⟩
  obtain ⟨lm, hlm⟩ : ∃ lm, lm = (l.set i y).set j x := ⟨_, rfl⟩
  have hperm : lm.Perm l := by
    have h := swap_perm l i j hil hjl
    have e1 : y = l[j] := by rw [HY.out]; simp [List.getD, hjl]
    have e2 : x = l[i] := by rw [HX.out]; simp [List.getD, hil]
    rw [hlm, e1, e2]
    exact h
  have G3 : Hid (w.grownBy W3 none) := Lib.hid (by
    rw [← hW3]
    have hne : ∀ k, (some gm : Option Nat) = some k → w.heap.size ≤ k := fun k e => by cases e; exact Nat.le_trans hw1 (RM.out.lt _ rfl).1
    exact grown_then (grownBy_trans (grownBy_trans G2.out hr1.2 hne) hr2.2 hne) (grown_drew _))
  have SM : Hid (CSeg W3 (some ⟨gm, 0, none⟩) n cm lm) := Lib.hid (by
    rw [← hW3, hlm]
    exact (CSeg.own hr2.1).old (grown_drew _))
  rw [hW3]
  clear hW3 hr1 hr2 hil hjl x0 x1 x2 y0 y1 y2 f0 f1 f2 f3 f4 f5 A0 A1 A2 v0 v1 v2 RM G2 HX HY hlm
  have hll : lm.length = n := by rw [hperm.length_eq, HL.out]
  have HPM := Lib.hid hperm
  have HIM : Hid (IntOk lm) := Lib.hid (fun u hu => HI.out u (hperm.mem_iff.1 hu))
  have HOM : Hid (StrsOk lm) := Lib.hid (fun u hu => HOK.out u (hperm.mem_iff.1 hu))
  have HI2 : Hid (IntOk (l ++ l)) := Lib.hid (fun u hu => HI.out u ((List.mem_append.1 hu).elim id id))
  have HO2 : Hid (StrsOk (l ++ l)) := Lib.hid (fun u hu => HOK.out u ((List.mem_append.1 hu).elim id id))
  obtain ⟨E, hE⟩ : ∃ E, E = checkS kind l := ⟨_, rfl⟩
  obtain ⟨F, hF⟩ : ∃ E, E = checkS kind lm := ⟨_, rfl⟩
  obtain ⟨H, hH⟩ : ∃ E, E = checkS kind (l ++ l) := ⟨_, rfl⟩
  obtain ⟨T1, hT1⟩ : ∃ T, T = strOfNums (putS kind l).2 := ⟨_, rfl⟩
  obtain ⟨T2, hT2⟩ : ∃ T, T = strOfNums (putS kind lm).2 := ⟨_, rfl⟩
  obtain ⟨T3, hT3⟩ : ∃ T, T = strOfNums (putS kind (l ++ l)).2 := ⟨_, rfl⟩
  obtain ⟨z, hz⟩ : ∃ z, z = ofZ l := ⟨_, rfl⟩
  obtain ⟨zz, hzz⟩ : ∃ v, v = joinZ z z := ⟨_, rfl⟩
  have HP11 : Hid (∀ W, CSeg W a n c l → Calls Tryz.prog 11 #[.int .i64 kind, .slice a n c] W fun e w' => e = .returned (.tuple #[.string T1, .int .i64 E]) ∧ W.grownBy w' none) := Lib.hid (fun W h => by
    have h1 := HP1.out kind a n c l W h HI.out HOK.out (by omega)
    rwa [put_e, ← hE, ← hT1] at h1)
  have HP12 : Hid (∀ W, CSeg W (some ⟨gm, 0, none⟩) n cm lm → Calls Tryz.prog 11 #[.int .i64 kind, .slice (some ⟨gm, 0, none⟩) n cm] W fun e w' => e = .returned (.tuple #[.string T2, .int .i64 F]) ∧ W.grownBy w' none) := Lib.hid (fun W h => by
    have h1 := HP1.out kind _ n cm lm W h HIM.out HOM.out (by omega)
    rwa [put_e, ← hF, ← hT2] at h1)
  have HP13 : Hid (∀ W g c', CSeg W (some ⟨g, 0, none⟩) (n + n) c' (l ++ l) → Calls Tryz.prog 11 #[.int .i64 kind, .slice (some ⟨g, 0, none⟩) (n + n) c'] W fun e w' => e = .returned (.tuple #[.string T3, .int .i64 H]) ∧ W.grownBy w' none) := Lib.hid (fun W g c' h => by
    have h1 := HP1.out kind _ (n + n) c' (l ++ l) W h HI2.out HO2.out (by omega)
    rwa [put_e, ← hH, ← hT3] at h1)
  have hmz : ofZ lm = z := by rw [hz]; exact of_perm hperm
  have hdz : ofZ (l ++ l) = zz := by rw [of_app, ← hz, hzz]
  have HEF : Hid (E = 0 ↔ F = 0) := Lib.hid (by rw [hE, hF, check_iff, check_iff]; exact ⟨fun h => h.perm hperm.symm, fun h => h.perm hperm⟩)
  have HEH : Hid (E = 0 ↔ H = 0) := Lib.hid (by rw [hE, hH, check_iff, check_iff]; exact (Col.twice (by rw [HL.out]; omega)).symm)
  have zc : ∀ (m : List Cel) (u : Zon) (T : ByteArray), Col kind m → IntOk m → m.length ≤ 120 → T = strOfNums (putS kind m).2 → ofZ m = u → ∀ W, Calls Tryz.prog 13 #[.string T] W fun e w' => e = .returned (.tuple #[.int .i64 kind, .agg #[.int .i64 u.cnt, .int .i64 u.nul, .int .i64 u.min.k, .int .i64 u.min.n, .string u.min.s, .int .i64 u.max.k, .int .i64 u.max.n, .string u.max.s], .int .i64 0]) ∧ W.grownBy w' none := fun m u T hc him hml hT hu W => by
    have h1 := HZ1.out (encS kind m) W (enc_isB hc) (Nat.le_trans (enc_few hc (by omega)) (by omega))
    have h2 := zone_enc hc him []
    rw [List.append_nil] at h2
    rw [h2] at h1
    dsimp only at h1
    rw [hu] at h1
    rw [hT, put_of hc]
    exact h1
  have HZ11 : Hid (E = 0 → ∀ W, Calls Tryz.prog 13 #[.string T1] W fun e w' => e = .returned (.tuple #[.int .i64 kind, .agg #[.int .i64 z.cnt, .int .i64 z.nul, .int .i64 z.min.k, .int .i64 z.min.n, .string z.min.s, .int .i64 z.max.k, .int .i64 z.max.n, .string z.max.s], .int .i64 0]) ∧ W.grownBy w' none) := Lib.hid (fun h => zc l z T1 (check_iff.1 (by rw [← hE]; exact h)) HI.out (by rw [HL.out]; omega) hT1 hz.symm)
  have HZ12 : Hid (E = 0 → ∀ W, Calls Tryz.prog 13 #[.string T2] W fun e w' => e = .returned (.tuple #[.int .i64 kind, .agg #[.int .i64 z.cnt, .int .i64 z.nul, .int .i64 z.min.k, .int .i64 z.min.n, .string z.min.s, .int .i64 z.max.k, .int .i64 z.max.n, .string z.max.s], .int .i64 0]) ∧ W.grownBy w' none) := Lib.hid (fun h => zc lm z T2 (check_iff.1 (by rw [← hF]; exact HEF.out.1 h)) HIM.out (by omega) hT2 hmz)
  have HZ13 : Hid (E = 0 → ∀ W, Calls Tryz.prog 13 #[.string T3] W fun e w' => e = .returned (.tuple #[.int .i64 kind, .agg #[.int .i64 zz.cnt, .int .i64 zz.nul, .int .i64 zz.min.k, .int .i64 zz.min.n, .string zz.min.s, .int .i64 zz.max.k, .int .i64 zz.max.n, .string zz.max.s], .int .i64 0]) ∧ W.grownBy w' none) := Lib.hid (fun h => zc (l ++ l) zz T3 (check_iff.1 (by rw [← hH]; exact HEH.out.1 h)) HI2.out (by rw [List.length_append, HL.out]; omega) hT3 hdz)
  have hsm : Small z := by
    have h1 := of_cnt l
    have h2 := good_of l
    rw [← hz] at h1 h2
    have h3 := h2.nul
    have h4 := h2.le
    have h5 := HL.out
    unfold Small
    omega
  have HJ := Lib.hid (fun W => rjoin_any z z W hsm hsm)
  rw [← hzz] at HJ
  clear zc hmz hdz hsm hE hF hH hT1 hT2 hT3 hz hzz HPM hperm HI HIM HOM HI2 HO2 hll
  go_wp2_with fail
  refine (HP11.out _ (HS.out.old G3.out)).mono ?_
  rintro e w4 ⟨rfl, hg⟩
  have SM4 := Lib.hid (SM.out.old hg)
  have G4 := Lib.hid (grown_then G3.out hg)
  clear hg SM G3 HP11
  dsimp only
  go_wp2_with fail
  refine (HP12.out _ SM4.out).mono ?_
  rintro e w5 ⟨rfl, hg⟩
  have G5 := Lib.hid (grown_then G4.out hg)
  clear hg SM4 G4 HP12
  dsimp only
  go_wp2_with fail
  refine (own_any a n c l w5 (HS.out.old G5.out) (by omega)).mono ?_
  rintro e w6 ⟨g6, c6, rfl, hrow, hg⟩
  have G6 := Lib.hid (grown_then G5.out hg)
  have R6 := Lib.hid hrow
  have hw5 : w.heap.size ≤ w5.heap.size := G5.out.size
  have h56 : w5.heap.size ≤ w6.heap.size := hg.size
  have hg6 := (hrow.lt _ rfl).1
  clear hg hrow G5
  dsimp only
  go_wp2_with (at_builtin; refine wpList_append_cseg rfl (.tmp 74) (.tmp 75) rfl w5.heap.size g6 n c6 _ rfl R6.out a n c l rfl (HS.out.old G6.out) (by omega) h56 ?_; intro g7 c7 w7 hown7 hgrow7)
  have SU : Hid (CSeg w7 (some ⟨g7, 0, none⟩) (n + n) c7 (l ++ l)) := Lib.hid (by
    have h := hown7
    rw [← flatC_app] at h
    exact CSeg.own h)
  have G7 : Hid (w.grownBy w7 none) := Lib.hid (grownBy_trans G6.out hgrow7 fun k e => by cases e; omega)
  clear hown7 hgrow7 G6 R6 hw5 h56 hg6 HS
  go_wp2_with fail
  refine (HP13.out _ g7 c7 SU.out).mono ?_
  rintro e w8 ⟨rfl, hg⟩
  have G8 := Lib.hid (grown_then G7.out hg)
  clear hg SU G7 HP13
  dsimp only
  by_cases h0 : E = 0
  · have q1 : (E == 0) = true := by rw [h0]; rfl
    have q2 : (F == 0) = true := by rw [HEF.out.1 h0]; rfl
    have q3 : (H == 0) = true := by rw [HEH.out.1 h0]; rfl
    have q4 : (E != 0) = false := by rw [h0]; rfl
    have HA := Lib.hid (HZ11.out h0)
    have HB := Lib.hid (HZ12.out h0)
    have HC := Lib.hid (HZ13.out h0)
    clear h0 HEF HEH HZ11 HZ12 HZ13
    go_wp2_with fail
    refine (HA.out _).mono ?_
    rintro e w9 ⟨rfl, hg⟩
    clear HA
    dsimp only
    go_wp2_with fail
    obtain ⟨W9, hW⟩ : ∃ V, w9.alloc (.cells #[.int .i64 z.cnt, .int .i64 z.nul, .int .i64 z.min.k, .int .i64 z.min.n, .string z.min.s, .int .i64 z.max.k, .int .i64 z.max.n, .string z.max.s] 33) = V := ⟨_, rfl⟩
    have hg2 : w9.grownBy W9 none := by rw [← hW]; exact grown_alloc _ _
    have W9B : Hid (ZB W9 w9.heap.size z) := Lib.hid (by rw [← hW]; exact ZB.new w9 z)
    have G9 := Lib.hid (grown_then G8.out (grown_then hg hg2))
    rw [hW]
    clear hW hg hg2 G8
    generalize w9.heap.size = g9 at *
    refine (HB.out _).mono ?_
    rintro e w10 ⟨rfl, hg⟩
    clear HB
    dsimp only
    go_wp2_with fail
    obtain ⟨W10, hW⟩ : ∃ V, w10.alloc (.cells #[.int .i64 z.cnt, .int .i64 z.nul, .int .i64 z.min.k, .int .i64 z.min.n, .string z.min.s, .int .i64 z.max.k, .int .i64 z.max.n, .string z.max.s] 33) = V := ⟨_, rfl⟩
    have hg2 : w10.grownBy W10 none := by rw [← hW]; exact grown_alloc _ _
    have W10B : Hid (ZB W10 w10.heap.size z) := Lib.hid (by rw [← hW]; exact ZB.new w10 z)
    have G10 := Lib.hid (grown_then G9.out (grown_then hg hg2))
    have W9B := Lib.hid (W9B.out.old (grown_then hg hg2))
    rw [hW]
    clear hW hg hg2 G9
    generalize w10.heap.size = g10 at *
    refine (HC.out _).mono ?_
    rintro e w11 ⟨rfl, hg⟩
    clear HC
    dsimp only
    go_upto_region 18 with (fail)
    obtain ⟨W11, hW⟩ : ∃ V, w11.alloc (.cells #[.int .i64 zz.cnt, .int .i64 zz.nul, .int .i64 zz.min.k, .int .i64 zz.min.n, .string zz.min.s, .int .i64 zz.max.k, .int .i64 zz.max.n, .string zz.max.s] 33) = V := ⟨_, rfl⟩
    have hg2 : w11.grownBy W11 none := by rw [← hW]; exact grown_alloc _ _
    have W11B : Hid (ZB W11 w11.heap.size zz) := Lib.hid (by rw [← hW]; exact ZB.new w11 zz)
    have G11 := Lib.hid (grown_then G10.out (grown_then hg hg2))
    have W9B := Lib.hid (W9B.out.old (grown_then hg hg2))
    have W10B := Lib.hid (W10B.out.old (grown_then hg hg2))
    rw [hW]
    clear hW hg hg2 G10
    generalize w11.heap.size = g11 at *
    have HJQ : Hid (∀ q : Gw W11, Calls Tryz.prog 26 #[.agg #[.int .i64 z.cnt, .int .i64 z.nul, .int .i64 z.min.k, .int .i64 z.min.n, .string z.min.s, .int .i64 z.max.k, .int .i64 z.max.n, .string z.max.s], .agg #[.int .i64 z.cnt, .int .i64 z.nul, .int .i64 z.min.k, .int .i64 z.min.n, .string z.min.s, .int .i64 z.max.k, .int .i64 z.max.n, .string z.max.s]] q.at_ fun e w' => e = .returned (.agg #[.int .i64 zz.cnt, .int .i64 zz.nul, .int .i64 zz.min.k, .int .i64 zz.min.n, .string zz.min.s, .int .i64 zz.max.k, .int .i64 zz.max.n, .string zz.max.s]) ∧ q.at_.grownBy w' none) := Lib.hid (fun q => HJ.out q.at_)
    have he1 : ∀ W, (binOp .eql 33 (.agg #[.int .i64 z.cnt, .int .i64 z.nul, .int .i64 z.min.k, .int .i64 z.min.n, .string z.min.s, .int .i64 z.max.k, .int .i64 z.max.n, .string z.max.s]) (.agg #[.int .i64 z.cnt, .int .i64 z.nul, .int .i64 z.min.k, .int .i64 z.min.n, .string z.min.s, .int .i64 z.max.k, .int .i64 z.max.n, .string z.max.s])).run Tryz.prog W = .ok (.bool true) W := fun W => by
      have h := eql_zone z z W
      rwa [eqZ_self] at h
    have he2 : ∀ W, (binOp .eql 33 (.agg #[.int .i64 zz.cnt, .int .i64 zz.nul, .int .i64 zz.min.k, .int .i64 zz.min.n, .string zz.min.s, .int .i64 zz.max.k, .int .i64 zz.max.n, .string zz.max.s]) (.agg #[.int .i64 zz.cnt, .int .i64 zz.nul, .int .i64 zz.min.k, .int .i64 zz.min.n, .string zz.min.s, .int .i64 zz.max.k, .int .i64 zz.max.n, .string zz.max.s])).run Tryz.prog W = .ok (.bool true) W := fun W => by
      have h := eql_zone zz zz W
      rwa [eqZ_self] at h
    obtain ⟨x0, x1, ⟨x2, x3, x4⟩, x5, x6, x7⟩ := W9B.out.gw
    obtain ⟨y0, y1, ⟨y2, y3, y4⟩, y5, y6, y7⟩ := W10B.out.gw
    obtain ⟨z0, z1, ⟨z2, z3, z4⟩, z5, z6, z7⟩ := W11B.out.gw
    refine wp_region_grow (by kernel_rfl) ?_
    repeat (go_big_quiet_step (first | (go_at_call 26; with_reducible exact Calls.grow_of (HJQ.out _)) | fail))
    refine wpQuiet_nil ?_
    rintro _ ⟨p, rfl⟩
    have G12 := Lib.hid (grown_then G11.out p.grown)
    go_wp2
    go_ret
    exact ⟨rfl, below_of G12.out⟩
  · have q1 : (E == 0) = false := beq_eq_false_iff_ne.2 h0
    have q2 : (F == 0) = false := beq_eq_false_iff_ne.2 fun h => h0 (HEF.out.2 h)
    have q3 : (H == 0) = false := beq_eq_false_iff_ne.2 fun h => h0 (HEH.out.2 h)
    have q4 : (E != 0) = true := by simp [h0]
    clear h0 HEF HEH HZ11 HZ12 HZ13
    go_wp2_with fail
    go_ret
    exact ⟨rfl, below_of G8.out⟩
end Go.Proofs.YtljanfnhmhimiaaGreat.Sg

namespace Go.Proofs.YtljanfnhmhimiaaGreat.Sg
open Go.RowKit Go.Joins Zn Zr Dv

theorem info_I : (Tryz.prog.info? 99).map (·.size) = some 6 := by kernel_rfl
theorem wpList_store_I (b : Nat) {w : World} {ops : Array Oper} {rest : List Oper} {o : Oper} {a : Act} {Q : Exit → Act → World → Prop} (hgd : o.guard = none) (x y : Operand) (ho : o.op = .store 99 x y)
    (g : Nat) (hx : a.eval x = .pointer (some ⟨g, 0, none⟩)) (hy : a.eval y = .agg #[.func (.func 89) #[] #[], .func (.func 90) #[] #[], .func (.func 91) #[] #[], .func (.func 93) #[] #[], .func (.func 95) #[] #[], .func (.func 140) #[] #[.pointer (some ⟨b, 0, none⟩)]]) (old : Array Value) (hg : w.heap[g]? = some (.cells old 99 (0, 0))) (hold : old.size = 6)
    (h : ∀ w', w'.heap[g]? = some (.cells #[.func (.func 89) #[] #[], .func (.func 90) #[] #[], .func (.func 91) #[] #[], .func (.func 93) #[] #[], .func (.func 95) #[] #[], .func (.func 140) #[] #[.pointer (some ⟨b, 0, none⟩)]] 99 (0, 0)) → Turn w w' (· = g) → wpList Tryz.prog ops Q rest (a.put o.dst undef) w') : wpList Tryz.prog ops Q (o :: rest) a w := by
  refine wpList_store_row hgd _ x y ho g _ hx hy _ _ hg info_I hold (by simp [Value.oneCell']) ?_
  exact h _ (setRow_heap w g _ _ _ _ hg) ⟨rfl, rfl, rfl, by simp [World.setRow], fun k _ hk => setRow_other w g k _ hk⟩
/-- the box that holds the library's function -/
def BoxI (w : World) (b : Nat) : Prop := w.heap[b]? = some (.cells #[.func (.func 97) #[] #[]] 140 (0, 0))
theorem BoxI.old {w w' : World} {b : Nat} (h : BoxI w b) (k : Turn w w' nowhere) : BoxI w' b := block_old h k.grown
theorem BoxI.cell {w : World} {b : Nat} (h : BoxI w b) : w.cell? ⟨b, 0, none⟩ = some (.func (.func 97) #[] #[]) := by
  unfold BoxI at h
  rw [cell_of_row _ _ _ _ _ _ h]; rfl
/-- a coder made -/
def MadeI (w : World) (e : Ending) (w' : World) : Prop := ∃ b, e = .returned (.agg #[.func (.func 89) #[] #[], .func (.func 90) #[] #[], .func (.func 91) #[] #[], .func (.func 93) #[] #[], .func (.func 95) #[] #[], .func (.func 140) #[] #[.pointer (some ⟨b, 0, none⟩)]]) ∧ BoxI w' b ∧ Turn w w' nowhere
set_option maxHeartbeats 1000000 in
theorem codec_I (w : World) : Calls Tryz.prog 53 #[] w (MadeI w) := by
  have q := Lib.hid (heap_alloc_new w (.cells #[.nilFunc, .nilFunc, .nilFunc, .nilFunc, .nilFunc, .nilFunc] 99))
  have HX := Lib.hid (fun W => exactly_I W)
  go_enter Tryz.func53, Tryz.ntmps53
  go_wp2_with fail
  refine (HX.out _).mono ?_
  rintro e w1 ⟨rfl, hw1⟩
  have hb : BoxI w1 (w.alloc (.cells #[.nilFunc, .nilFunc, .nilFunc, .nilFunc, .nilFunc, .nilFunc] 99)).heap.size := by rw [hw1]; exact heap_alloc_new _ _
  have ht : Turn w w1 nowhere := by rw [hw1]; exact (Turn.alloc w _ nowhere).trans (Turn.alloc _ _ nowhere) (fun _ _ h => h)
  have hq : w1.heap[w.heap.size]? = some (.cells #[.nilFunc, .nilFunc, .nilFunc, .nilFunc, .nilFunc, .nilFunc] 99 (0, 0)) := by rw [hw1]; exact (Below.heap_alloc _ _ _ (by simp)).trans q.out
  rw [World.size_alloc] at hb
  have HB := Lib.hid hb
  have HT := Lib.hid ht
  have HQ := Lib.hid hq
  have hz : w.heap.size < w1.heap.size := by rw [hw1]; simp; omega
  clear hw1 hb ht hq q
  go_wp2_with (first
    | (with_reducible refine wpList_store_I (w.heap.size + 1) rfl (.tmp 0) (.tmp 2) rfl w.heap.size rfl rfl _ HQ.out rfl ?_; intro w2 hq2 ht2)
    | fail)
  have HF : Hid (MadeI w (.returned (.agg #[.func (.func 89) #[] #[], .func (.func 90) #[] #[], .func (.func 91) #[] #[], .func (.func 93) #[] #[], .func (.func 95) #[] #[], .func (.func 140) #[] #[.pointer (some ⟨w.heap.size + 1, 0, none⟩)]])) w2) := Lib.hid ⟨w.heap.size + 1, rfl, block_turn HB.out ht2 (by omega), Pk.turn_of (grown_put HT.out.grown ht2 (Nat.le_refl _))⟩
  refine bodyPost_ret (v := .agg #[.func (.func 89) #[] #[], .func (.func 90) #[] #[], .func (.func 91) #[] #[], .func (.func 93) #[] #[], .func (.func 95) #[] #[], .func (.func 140) #[] #[.pointer (some ⟨w.heap.size + 1, 0, none⟩)]]) (run_results_row rfl _ _ _ _ _ (0, 0) _ rfl hq2 Tryz.underlying99 rfl info_I) rfl HF.out

theorem info_B : (Tryz.prog.info? 108).map (·.size) = some 6 := by kernel_rfl
theorem wpList_store_B {w : World} {ops : Array Oper} {rest : List Oper} {o : Oper} {a : Act} {Q : Exit → Act → World → Prop} (hgd : o.guard = none) (x y : Operand) (ho : o.op = .store 108 x y)
    (g : Nat) (hx : a.eval x = .pointer (some ⟨g, 0, none⟩)) (hy : a.eval y = .agg #[.func (.func 98) #[] #[], .func (.func 99) #[] #[], .func (.func 100) #[] #[], .func (.func 101) #[] #[], .func (.func 102) #[] #[], .func (.func 103) #[] #[]]) (old : Array Value) (hg : w.heap[g]? = some (.cells old 108 (0, 0))) (hold : old.size = 6)
    (h : ∀ w', w'.heap[g]? = some (.cells #[.func (.func 98) #[] #[], .func (.func 99) #[] #[], .func (.func 100) #[] #[], .func (.func 101) #[] #[], .func (.func 102) #[] #[], .func (.func 103) #[] #[]] 108 (0, 0)) → Turn w w' (· = g) → wpList Tryz.prog ops Q rest (a.put o.dst undef) w') : wpList Tryz.prog ops Q (o :: rest) a w := by
  refine wpList_store_row hgd _ x y ho g _ hx hy _ _ hg info_B hold (by simp [Value.oneCell']) ?_
  exact h _ (setRow_heap w g _ _ _ _ hg) ⟨rfl, rfl, rfl, by simp [World.setRow], fun k _ hk => setRow_other w g k _ hk⟩
set_option maxHeartbeats 1000000 in
theorem codec_B (w : World) : Calls Tryz.prog 54 #[] w fun e w' => e = .returned (.agg #[.func (.func 98) #[] #[], .func (.func 99) #[] #[], .func (.func 100) #[] #[], .func (.func 101) #[] #[], .func (.func 102) #[] #[], .func (.func 103) #[] #[]]) ∧ Turn w w' nowhere := by
  have q := Lib.hid (heap_alloc_new w (.cells #[.nilFunc, .nilFunc, .nilFunc, .nilFunc, .nilFunc, .nilFunc] 108))
  have HG := Lib.hid (grown_alloc w (.cells #[.nilFunc, .nilFunc, .nilFunc, .nilFunc, .nilFunc, .nilFunc] 108))
  go_enter Tryz.func54, Tryz.ntmps54
  go_wp2_with (first
    | (with_reducible refine wpList_store_B rfl (.tmp 0) (.tmp 1) rfl w.heap.size rfl rfl _ q.out rfl ?_; intro w2 hq2 ht2)
    | fail)
  refine bodyPost_ret (v := .agg #[.func (.func 98) #[] #[], .func (.func 99) #[] #[], .func (.func 100) #[] #[], .func (.func 101) #[] #[], .func (.func 102) #[] #[], .func (.func 103) #[] #[]]) (run_results_row rfl _ _ _ _ _ (0, 0) _ rfl hq2 Tryz.underlying108 rfl info_B) rfl ⟨rfl, Pk.turn_of (grown_put HG.out ht2 (Nat.le_refl _))⟩

theorem info_T : (Tryz.prog.info? 117).map (·.size) = some 6 := by kernel_rfl
theorem wpList_store_T (b : Nat) {w : World} {ops : Array Oper} {rest : List Oper} {o : Oper} {a : Act} {Q : Exit → Act → World → Prop} (hgd : o.guard = none) (x y : Operand) (ho : o.op = .store 117 x y)
    (g : Nat) (hx : a.eval x = .pointer (some ⟨g, 0, none⟩)) (hy : a.eval y = .agg #[.func (.func 105) #[] #[], .func (.func 106) #[] #[], .func (.func 107) #[] #[], .func (.func 108) #[] #[], .func (.func 109) #[] #[], .func (.func 146) #[] #[.pointer (some ⟨b, 0, none⟩)]]) (old : Array Value) (hg : w.heap[g]? = some (.cells old 117 (0, 0))) (hold : old.size = 6)
    (h : ∀ w', w'.heap[g]? = some (.cells #[.func (.func 105) #[] #[], .func (.func 106) #[] #[], .func (.func 107) #[] #[], .func (.func 108) #[] #[], .func (.func 109) #[] #[], .func (.func 146) #[] #[.pointer (some ⟨b, 0, none⟩)]] 117 (0, 0)) → Turn w w' (· = g) → wpList Tryz.prog ops Q rest (a.put o.dst undef) w') : wpList Tryz.prog ops Q (o :: rest) a w := by
  refine wpList_store_row hgd _ x y ho g _ hx hy _ _ hg info_T hold (by simp [Value.oneCell']) ?_
  exact h _ (setRow_heap w g _ _ _ _ hg) ⟨rfl, rfl, rfl, by simp [World.setRow], fun k _ hk => setRow_other w g k _ hk⟩
/-- the box that holds the library's function -/
def BoxT (w : World) (b : Nat) : Prop := w.heap[b]? = some (.cells #[.func (.func 111) #[] #[]] 144 (0, 0))
theorem BoxT.old {w w' : World} {b : Nat} (h : BoxT w b) (k : Turn w w' nowhere) : BoxT w' b := block_old h k.grown
theorem BoxT.cell {w : World} {b : Nat} (h : BoxT w b) : w.cell? ⟨b, 0, none⟩ = some (.func (.func 111) #[] #[]) := by
  unfold BoxT at h
  rw [cell_of_row _ _ _ _ _ _ h]; rfl
/-- a coder made -/
def MadeT (w : World) (e : Ending) (w' : World) : Prop := ∃ b, e = .returned (.agg #[.func (.func 105) #[] #[], .func (.func 106) #[] #[], .func (.func 107) #[] #[], .func (.func 108) #[] #[], .func (.func 109) #[] #[], .func (.func 146) #[] #[.pointer (some ⟨b, 0, none⟩)]]) ∧ BoxT w' b ∧ Turn w w' nowhere
set_option maxHeartbeats 1000000 in
theorem codec_T (w : World) : Calls Tryz.prog 55 #[] w (MadeT w) := by
  have q := Lib.hid (heap_alloc_new w (.cells #[.nilFunc, .nilFunc, .nilFunc, .nilFunc, .nilFunc, .nilFunc] 117))
  have HX := Lib.hid (fun W => exactly_T W)
  go_enter Tryz.func55, Tryz.ntmps55
  go_wp2_with fail
  refine (HX.out _).mono ?_
  rintro e w1 ⟨rfl, hw1⟩
  have hb : BoxT w1 (w.alloc (.cells #[.nilFunc, .nilFunc, .nilFunc, .nilFunc, .nilFunc, .nilFunc] 117)).heap.size := by rw [hw1]; exact heap_alloc_new _ _
  have ht : Turn w w1 nowhere := by rw [hw1]; exact (Turn.alloc w _ nowhere).trans (Turn.alloc _ _ nowhere) (fun _ _ h => h)
  have hq : w1.heap[w.heap.size]? = some (.cells #[.nilFunc, .nilFunc, .nilFunc, .nilFunc, .nilFunc, .nilFunc] 117 (0, 0)) := by rw [hw1]; exact (Below.heap_alloc _ _ _ (by simp)).trans q.out
  rw [World.size_alloc] at hb
  have HB := Lib.hid hb
  have HT := Lib.hid ht
  have HQ := Lib.hid hq
  have hz : w.heap.size < w1.heap.size := by rw [hw1]; simp; omega
  clear hw1 hb ht hq q
  go_wp2_with (first
    | (with_reducible refine wpList_store_T (w.heap.size + 1) rfl (.tmp 0) (.tmp 2) rfl w.heap.size rfl rfl _ HQ.out rfl ?_; intro w2 hq2 ht2)
    | fail)
  have HF : Hid (MadeT w (.returned (.agg #[.func (.func 105) #[] #[], .func (.func 106) #[] #[], .func (.func 107) #[] #[], .func (.func 108) #[] #[], .func (.func 109) #[] #[], .func (.func 146) #[] #[.pointer (some ⟨w.heap.size + 1, 0, none⟩)]])) w2) := Lib.hid ⟨w.heap.size + 1, rfl, block_turn HB.out ht2 (by omega), Pk.turn_of (grown_put HT.out.grown ht2 (Nat.le_refl _))⟩
  refine bodyPost_ret (v := .agg #[.func (.func 105) #[] #[], .func (.func 106) #[] #[], .func (.func 107) #[] #[], .func (.func 108) #[] #[], .func (.func 109) #[] #[], .func (.func 146) #[] #[.pointer (some ⟨w.heap.size + 1, 0, none⟩)]]) (run_results_row rfl _ _ _ _ _ (0, 0) _ rfl hq2 Tryz.underlying117 rfl info_T) rfl HF.out

/-- a coder of that kind, in an interface -/
def CodV (w : World) (kind : Int) (v : Value) : Prop :=
  (kind = 1 ∧ ∃ b, v = .iface 99 (.agg #[.func (.func 89) #[] #[], .func (.func 90) #[] #[], .func (.func 91) #[] #[], .func (.func 93) #[] #[], .func (.func 95) #[] #[], .func (.func 140) #[] #[.pointer (some ⟨b, 0, none⟩)]]) ∧ BoxI w b) ∨ (kind = 2 ∧ v = .iface 108 (.agg #[.func (.func 98) #[] #[], .func (.func 99) #[] #[], .func (.func 100) #[] #[], .func (.func 101) #[] #[], .func (.func 102) #[] #[], .func (.func 103) #[] #[]])) ∨ (kind = 3 ∧ ∃ b, v = .iface 117 (.agg #[.func (.func 105) #[] #[], .func (.func 106) #[] #[], .func (.func 107) #[] #[], .func (.func 108) #[] #[], .func (.func 109) #[] #[], .func (.func 146) #[] #[.pointer (some ⟨b, 0, none⟩)]]) ∧ BoxT w b)
theorem CodV.old {w w' : World} {kind : Int} {v : Value} (h : CodV w kind v) (k : Turn w w' nowhere) : CodV w' kind v := by
  rcases h with ⟨h1, b, h2, h3⟩ | h | ⟨h1, b, h2, h3⟩
  · exact .inl ⟨h1, b, h2, h3.old k⟩
  · exact .inr (.inl h)
  · exact .inr (.inr ⟨h1, b, h2, h3.old k⟩)
def CoderX (w : World) (kind : Int) (e : Ending) (w' : World) : Prop := ∃ v, e = .returned v ∧ CodV w' kind v ∧ Turn w w' nowhere

set_option maxHeartbeats 1000000 in
theorem coderOf_I (w : World) : Calls Tryz.prog 31 #[.int .i64 1] w (CoderX w 1) := by
  have HC := Lib.hid (fun W => codec_I W)
  go_enter Tryz.func31, Tryz.ntmps31
  go_wp2_with fail
  refine (HC.out _).mono ?_
  rintro e w1 ⟨b, rfl, hb, ht⟩
  have HF : Hid (CoderX w 1 (.returned (.iface 99 (.agg #[.func (.func 89) #[] #[], .func (.func 90) #[] #[], .func (.func 91) #[] #[], .func (.func 93) #[] #[], .func (.func 95) #[] #[], .func (.func 140) #[] #[.pointer (some ⟨b, 0, none⟩)]]))) w1) := Lib.hid ⟨_, rfl, .inl ⟨rfl, b, rfl, hb⟩, ht⟩
  clear hb ht
  go_wp2
  go_ret
  exact HF.out
set_option maxHeartbeats 1000000 in
theorem coderOf_B (w : World) : Calls Tryz.prog 31 #[.int .i64 2] w (CoderX w 2) := by
  have HC := Lib.hid (fun W => codec_B W)
  go_enter Tryz.func31, Tryz.ntmps31
  go_wp2_with fail
  refine (HC.out _).mono ?_
  rintro e w1 ⟨rfl, ht⟩
  have HF : Hid (CoderX w 2 (.returned (.iface 108 (.agg #[.func (.func 98) #[] #[], .func (.func 99) #[] #[], .func (.func 100) #[] #[], .func (.func 101) #[] #[], .func (.func 102) #[] #[], .func (.func 103) #[] #[]]))) w1) := Lib.hid ⟨_, rfl, .inr (.inl ⟨rfl, rfl⟩), ht⟩
  clear ht
  go_wp2
  go_ret
  exact HF.out
set_option maxHeartbeats 1000000 in
theorem coderOf_T (w : World) : Calls Tryz.prog 31 #[.int .i64 3] w (CoderX w 3) := by
  have HC := Lib.hid (fun W => codec_T W)
  go_enter Tryz.func31, Tryz.ntmps31
  go_wp2_with fail
  refine (HC.out _).mono ?_
  rintro e w1 ⟨b, rfl, hb, ht⟩
  have HF : Hid (CoderX w 3 (.returned (.iface 117 (.agg #[.func (.func 105) #[] #[], .func (.func 106) #[] #[], .func (.func 107) #[] #[], .func (.func 108) #[] #[], .func (.func 109) #[] #[], .func (.func 146) #[] #[.pointer (some ⟨b, 0, none⟩)]]))) w1) := Lib.hid ⟨_, rfl, .inr (.inr ⟨rfl, b, rfl, hb⟩), ht⟩
  clear hb ht
  go_wp2
  go_ret
  exact HF.out
theorem coderOf_any (kind : Int) (w : World) (k1 : 1 ≤ kind) (k3 : kind ≤ 3) : Calls Tryz.prog 31 #[.int .i64 kind] w (CoderX w kind) := by
  rcases (by omega : kind = 1 ∨ kind = 2 ∨ kind = 3) with rfl | rfl | rfl
  · exact coderOf_I w
  · exact coderOf_B w
  · exact coderOf_T w
set_option maxHeartbeats 1000000 in
theorem coderOf_no (kind : Int) (w : World) (h : kind < 1 ∨ 3 < kind) : Calls Tryz.prog 31 #[.int .i64 kind] w fun e w' => e = .returned .nilIface ∧ w = w' := by
  have q1 : (kind == 1) = false := beq_eq_false_iff_ne.2 (by omega)
  have q2 : (kind == 2) = false := beq_eq_false_iff_ne.2 (by omega)
  have q3 : (kind == 3) = false := beq_eq_false_iff_ne.2 (by omega)
  go_enter Tryz.func31, Tryz.ntmps31
  go_wp2
  go_ret
  exact ⟨rfl, rfl⟩
end Go.Proofs.YtljanfnhmhimiaaGreat.Sg

namespace Go.Proofs.YtljanfnhmhimiaaGreat.Sg
open Go.RowKit Go.Joins Zn Zr Dv
open Bs (info_u8)

set_option maxHeartbeats 1000000 in
theorem value_I (c : Cel) (w : World) : Calls Tryz.prog 89 #[.agg #[.int .i64 c.k, .int .i64 c.n, .string c.s]] w fun e w' => e = .returned (.int .i64 c.n) ∧ w.grownBy w' none := by
  have HG := Lib.hid (grown_alloc w (.cells #[.int .i64 c.k, .int .i64 c.n, .string c.s] 24))
  go_enter Tryz.func89, Tryz.ntmps89
  go_wp2
  go_ret
  exact ⟨rfl, HG.out⟩

set_option maxHeartbeats 1000000 in
theorem value_B (c : Cel) (w : World) : Calls Tryz.prog 98 #[.agg #[.int .i64 c.k, .int .i64 c.n, .string c.s]] w fun e w' => e = .returned (.int .u64 (In.u c.n)) ∧ w.grownBy w' none := by
  have HG := Lib.hid (grown_alloc w (.cells #[.int .i64 c.k, .int .i64 c.n, .string c.s] 24))
  have hw : IntKind.u64.wrap c.n = In.u c.n := In.conv_u c.n
  go_enter Tryz.func98, Tryz.ntmps98
  go_wp2
  go_ret
  exact ⟨rfl, HG.out⟩

set_option maxHeartbeats 1000000 in
theorem value_T (c : Cel) (w : World) : Calls Tryz.prog 105 #[.agg #[.int .i64 c.k, .int .i64 c.n, .string c.s]] w fun e w' => e = .returned (.string c.s) ∧ w.grownBy w' none := by
  have HG := Lib.hid (grown_alloc w (.cells #[.int .i64 c.k, .int .i64 c.n, .string c.s] 24))
  go_enter Tryz.func105, Tryz.ntmps105
  go_wp2
  go_ret
  exact ⟨rfl, HG.out⟩

set_option maxHeartbeats 1000000 in
theorem cell_I (v : Int) (w : World) : Calls Tryz.prog 90 #[.int .i64 v] w fun e w' => e = .returned (.agg #[.int .i64 1, .int .i64 v, .string ⟨#[]⟩]) ∧ w.grownBy w' none := by
  go_enter Tryz.func90, Tryz.ntmps90
  go_wp2
  refine bodyPost_ret (v := .agg #[.int .i64 1, .int .i64 v, .string ⟨#[]⟩]) (run_results_row rfl _ _ w.heap.size _ _ (0, 0) _ rfl (heap_alloc_new _ _) Tryz.underlying24 rfl info_cell2) rfl ⟨rfl, grown_alloc _ _⟩

set_option maxHeartbeats 1000000 in
theorem cell_B (v : Int) (h0 : 0 ≤ v) (h1 : v < 9223372036854775808) (w : World) : Calls Tryz.prog 99 #[.int .u64 v] w fun e w' => e = .returned (.agg #[.int .i64 2, .int .i64 v, .string ⟨#[]⟩]) ∧ w.grownBy w' none := by
  have hw : IntKind.i64.wrap v = v := IntWalk.i64_in _ (by omega)
  go_enter Tryz.func99, Tryz.ntmps99
  go_wp2
  refine bodyPost_ret (v := .agg #[.int .i64 2, .int .i64 v, .string ⟨#[]⟩]) (run_results_row rfl _ _ w.heap.size _ _ (0, 0) _ rfl (heap_alloc_new _ _) Tryz.underlying24 rfl info_cell2) rfl ⟨rfl, grown_alloc _ _⟩

set_option maxHeartbeats 1000000 in
theorem cell_T (s : ByteArray) (w : World) : Calls Tryz.prog 106 #[.string s] w fun e w' => e = .returned (.agg #[.int .i64 3, .int .i64 0, .string s]) ∧ w.grownBy w' none := by
  go_enter Tryz.func106, Tryz.ntmps106
  go_wp2
  refine bodyPost_ret (v := .agg #[.int .i64 3, .int .i64 0, .string s]) (run_results_row rfl _ _ w.heap.size _ _ (0, 0) _ rfl (heap_alloc_new _ _) Tryz.underlying24 rfl info_cell2) rfl ⟨rfl, grown_alloc _ _⟩

/-- bytes handed back, new memory -/
def BytesX (w : World) (m : Nat) (B : List Int) (e : Ending) (w' : World) : Prop := ∃ a k, e = .returned (.slice a m k) ∧ Bs.Seg w' a m k B ∧ Turn w w' nowhere
theorem bytes_of {w w' : World} {B : List Int} {e : Ending} {m : Nat} (hm : B.length = m) (h : Oct.NewB w B e w') : BytesX w m B e w' := by
  obtain ⟨g, q, rfl, hf⟩ := h.value
  obtain ⟨hq, hown, hg⟩ := hf.is
  obtain rfl : q = m := hq.trans hm
  exact ⟨_, _, rfl, In.bseg (Oct.Seg.own hown), Pk.turn_of hg⟩

set_option maxHeartbeats 1000000 in
theorem putOne_I (v : Int) (w : World) : Calls Tryz.prog 91 #[.int .i64 v] w (BytesX w 8 (In.num8 v)) := by
  have hw : IntKind.u64.wrap v = In.u v := In.conv_u v
  have HP := Lib.hid (Oct.put_yes none 0 0 [] (In.u v) 8 w (Oct.Seg.nil w) (In.u_bd v).1 (In.u_bd v).2 (by decide) (by decide) (by decide))
  go_enter Tryz.func91, Tryz.ntmps91
  go_wp2_with fail
  refine HP.out.mono ?_
  rintro e w1 hnew
  rw [List.nil_append] at hnew
  have HF := Lib.hid (bytes_of (m := 8) (In.num8_length v) hnew)
  obtain ⟨g, q, rfl, hf⟩ := hnew.value
  clear hf hw
  go_wp2
  go_ret
  exact HF.out

set_option maxHeartbeats 1000000 in
theorem putOne_B (v : Int) (h0 : 0 ≤ v) (h1 : v < 256) (w : World) : Calls Tryz.prog 100 #[.int .u64 v] w (BytesX w 1 [v]) := by
  have HP := Lib.hid (Oct.put_yes none 0 0 [] v 1 w (Oct.Seg.nil w) h0 (by omega) (by decide) (by decide) (by decide))
  have HE : Hid ([] ++ Oct.putB 1 v = [v]) := Lib.hid (by rw [List.nil_append]; show [v % 256] = [v]; rw [Int.emod_eq_of_lt h0 h1])
  go_enter Tryz.func100, Tryz.ntmps100
  go_wp2_with fail
  refine HP.out.mono ?_
  rintro e w1 hnew
  rw [HE.out] at hnew
  have HF := Lib.hid (bytes_of (m := 1) rfl hnew)
  obtain ⟨g, q, rfl, hf⟩ := hnew.value
  clear hf
  go_wp2
  go_ret
  exact HF.out

set_option maxHeartbeats 1000000 in
theorem putOne_T (x : List Int) (m : Nat) (hx : Bs.IsB x) (hl : x.length ≤ 65536) (hm : (Tx.strB x).length = m) (w : World) : Calls Tryz.prog 107 #[.string (strOfNums x)] w (BytesX w m (Tx.strB x)) := by
  obtain ⟨i0, hi, hz0, hz1, hz2⟩ := info_parts info_u8
  have hss := strOfNums_size x
  obtain ⟨xl, hxe⟩ : ∃ n, x.length = n := ⟨_, rfl⟩
  rw [hxe] at hss hl
  have hwu := Tx.wrap_u64 (n := xl) (by omega)
  have HPut := Lib.hid (Oct.putVar_any none 0 0 [] (xl : Int) w (Oct.Seg.nil w) (by omega) (by omega) (by omega))
  have hvl := Oct.varB_le 9 (xl : Int)
  have HSS := Lib.hid hss
  have HX := Lib.hid hx
  have HXE := Lib.hid hxe
  have HM : Hid ((Oct.varB 9 (xl : Int) ++ x).length = m) := Lib.hid (by rw [← hm, ← hxe]; rfl)
  have HS : Hid (Tx.strB x = Oct.varB 9 (xl : Int) ++ x) := Lib.hid (by rw [← hxe]; rfl)
  clear hm hx hxe
  go_enter Tryz.func107, Tryz.ntmps107
  go_wp2_with fail
  refine HPut.out.mono ?_
  rintro e w1 hnew
  rw [List.nil_append] at hnew
  obtain ⟨g, p, rfl, hf⟩ := hnew.value
  obtain ⟨hp, hown1, hg⟩ := hf.is
  rw [← hp] at hvl
  have HPl := Lib.hid hp
  have HO1 := Lib.hid hown1
  have HG1 := Lib.hid hg
  have HS2 : Hid (w.heap.size ≤ w1.heap.size) := Lib.hid hg.size
  clear hnew hf hown1 hg hp
  go_wp2_with (at_builtin; refine Lib.wpList_append_own_string _ rfl _ _ 45 9 rfl w.heap.size 5 i0 Tryz.underlying45 Tryz.underlying9 hi hz0 hz1 hz2 _ p _ rfl HO1.out (strOfNums x) rfl (by rw [HSS.out]; unfold maxLen; omega) (by rw [HSS.out]; omega) HS2.out ?_; intro v3 w3 hown3 hgrow3 hnil3)
  rw [HSS.out, Tx.strCells_nums x HX.out, ← List.map_append] at hown3
  obtain ⟨g3, c3, rfl⟩ := Nu.ownsRow_form hown3 (by have := HPl.out; have := Oct.varB_pos 9 (xl : Int); omega)
  have HF : Hid (BytesX w m (Tx.strB x) (.returned (.slice (some ⟨g3, 0, none⟩) (p + xl) c3)) w3) := Lib.hid (by
    have h1 := HM.out
    rw [List.length_append, ← HPl.out, HXE.out] at h1
    rw [HS.out, ← h1]
    exact ⟨_, _, rfl, Bs.Seg.own hown3, Pk.turn_of (Bs.grownBy_trans HG1.out hgrow3 (fun i e => (HO1.out.lt i e).1))⟩)
  clear hown3 hgrow3 hnil3
  go_wp2
  go_ret
  exact HF.out

set_option maxRecDepth 100000 in
set_option maxHeartbeats 2000000 in
theorem putCell_I (b : Nat) (c : Cel) (w : World) : Calls Tryz.prog 237 #[.agg #[.func (.func 89) #[] #[], .func (.func 90) #[] #[], .func (.func 91) #[] #[], .func (.func 93) #[] #[], .func (.func 95) #[] #[], .func (.func 140) #[] #[.pointer (some ⟨b, 0, none⟩)]], .agg #[.int .i64 c.k, .int .i64 c.n, .string c.s]] w (BytesX w 8 (In.num8 c.n)) := by
  have HV := fun W => value_I c W

  have HP := Lib.hid (fun W => putOne_I c.n W)
  have HV := Lib.hid HV
  go_enter Tryz.func237, Tryz.ntmps237
  go_wp2
  go_region_held3 (fun w' => w'.cell? ⟨w.heap.size, 2, none⟩ = some (.func (.func 91) #[] #[]) ∧ w'.cell? ⟨w.heap.size, 0, none⟩ = some (.func (.func 89) #[] #[]) ∧ w'.cell? ⟨w.heap.size + 1, 0, none⟩ = some (.int .i64 c.k) ∧ w'.cell? ⟨w.heap.size + 1, 1, none⟩ = some (.int .i64 c.n) ∧ w'.cell? ⟨w.heap.size + 1, 2, none⟩ = some (.string c.s)) (go_keep)
    (first
      | (go_at_call 89
         (with_reducible refine (HV.out _).mono ?_)
         rintro e wv ⟨rfl, hg⟩
         have T1 := Lib.hid (((Turn.alloc w _ nowhere).trans (Turn.alloc _ _ nowhere) (fun _ _ h => h)).trans ((Turn.drew _ nowhere).trans (Pk.turn_of hg) (fun _ _ h => h)) (fun _ _ h => h))
         have q0 := (Pk.turn_of hg).cell (p := ⟨w.heap.size, 2, none⟩) (v := .func (.func 91) #[] #[]) (by simp [go_sem]) id
         have q1 := (Pk.turn_of hg).cell (p := ⟨w.heap.size, 0, none⟩) (v := .func (.func 89) #[] #[]) (by simp [go_sem]) id
         have q2 := (Pk.turn_of hg).cell (p := ⟨w.heap.size + 1, 0, none⟩) (v := .int .i64 c.k) (by simp [go_sem]) id
         have q3 := (Pk.turn_of hg).cell (p := ⟨w.heap.size + 1, 1, none⟩) (v := .int .i64 c.n) (by simp [go_sem]) id
         have q4 := (Pk.turn_of hg).cell (p := ⟨w.heap.size + 1, 2, none⟩) (v := .string c.s) (by simp [go_sem]) id
         clear hg)
      | (go_at_call 91
         (with_reducible refine (HP.out _).mono ?_)
         rintro e w2 ⟨a, k, rfl, hs, ht⟩
         have T2 := Lib.hid (T1.out.trans ht (fun _ _ h => h))
         have S2 := Lib.hid hs
         have p0 := ht.cell q0 id
         have p1 := ht.cell q1 id
         have p2 := ht.cell q2 id
         have p3 := ht.cell q3 id
         have p4 := ht.cell q4 id
         clear hs ht)
      | fail)
  go_wp2
  go_ret
  exact ⟨a, k, rfl, S2.out, T2.out⟩

set_option maxRecDepth 100000 in
set_option maxHeartbeats 2000000 in
theorem putCell_B (c : Cel) (h0 : 0 ≤ c.n) (h1 : c.n < 256) (w : World) : Calls Tryz.prog 241 #[.agg #[.func (.func 98) #[] #[], .func (.func 99) #[] #[], .func (.func 100) #[] #[], .func (.func 101) #[] #[], .func (.func 102) #[] #[], .func (.func 103) #[] #[]], .agg #[.int .i64 c.k, .int .i64 c.n, .string c.s]] w (BytesX w 1 [c.n]) := by
  have HV := fun W => value_B c W
  have hu : In.u c.n = c.n := by unfold In.u; omega
  rw [hu] at HV
  have HP := Lib.hid (fun W => putOne_B c.n h0 h1 W)
  have HV := Lib.hid HV
  go_enter Tryz.func241, Tryz.ntmps241
  go_wp2
  go_region_held3 (fun w' => w'.cell? ⟨w.heap.size, 2, none⟩ = some (.func (.func 100) #[] #[]) ∧ w'.cell? ⟨w.heap.size, 0, none⟩ = some (.func (.func 98) #[] #[]) ∧ w'.cell? ⟨w.heap.size + 1, 0, none⟩ = some (.int .i64 c.k) ∧ w'.cell? ⟨w.heap.size + 1, 1, none⟩ = some (.int .i64 c.n) ∧ w'.cell? ⟨w.heap.size + 1, 2, none⟩ = some (.string c.s)) (go_keep)
    (first
      | (go_at_call 98
         (with_reducible refine (HV.out _).mono ?_)
         rintro e wv ⟨rfl, hg⟩
         have T1 := Lib.hid (((Turn.alloc w _ nowhere).trans (Turn.alloc _ _ nowhere) (fun _ _ h => h)).trans ((Turn.drew _ nowhere).trans (Pk.turn_of hg) (fun _ _ h => h)) (fun _ _ h => h))
         have q0 := (Pk.turn_of hg).cell (p := ⟨w.heap.size, 2, none⟩) (v := .func (.func 100) #[] #[]) (by simp [go_sem]) id
         have q1 := (Pk.turn_of hg).cell (p := ⟨w.heap.size, 0, none⟩) (v := .func (.func 98) #[] #[]) (by simp [go_sem]) id
         have q2 := (Pk.turn_of hg).cell (p := ⟨w.heap.size + 1, 0, none⟩) (v := .int .i64 c.k) (by simp [go_sem]) id
         have q3 := (Pk.turn_of hg).cell (p := ⟨w.heap.size + 1, 1, none⟩) (v := .int .i64 c.n) (by simp [go_sem]) id
         have q4 := (Pk.turn_of hg).cell (p := ⟨w.heap.size + 1, 2, none⟩) (v := .string c.s) (by simp [go_sem]) id
         clear hg)
      | (go_at_call 100
         (with_reducible refine (HP.out _).mono ?_)
         rintro e w2 ⟨a, k, rfl, hs, ht⟩
         have T2 := Lib.hid (T1.out.trans ht (fun _ _ h => h))
         have S2 := Lib.hid hs
         have p0 := ht.cell q0 id
         have p1 := ht.cell q1 id
         have p2 := ht.cell q2 id
         have p3 := ht.cell q3 id
         have p4 := ht.cell q4 id
         clear hs ht)
      | fail)
  go_wp2
  go_ret
  exact ⟨a, k, rfl, S2.out, T2.out⟩

set_option maxRecDepth 100000 in
set_option maxHeartbeats 2000000 in
theorem putCell_T (b : Nat) (c : Cel) (hl : c.s.size ≤ 65536) (m : Nat) (hm : (Tx.strB (nm c.s)).length = m) (w : World) : Calls Tryz.prog 245 #[.agg #[.func (.func 105) #[] #[], .func (.func 106) #[] #[], .func (.func 107) #[] #[], .func (.func 108) #[] #[], .func (.func 109) #[] #[], .func (.func 146) #[] #[.pointer (some ⟨b, 0, none⟩)]], .agg #[.int .i64 c.k, .int .i64 c.n, .string c.s]] w (BytesX w m (Tx.strB (nm c.s))) := by
  have HV := fun W => value_T c W

  have HP := Lib.hid (fun W => (by have h := putOne_T (nm c.s) m (nm_isB _) (by rw [nm_len]; exact hl) hm W; rw [str_nm] at h; exact h : Calls Tryz.prog 107 #[.string c.s] W (BytesX W m (Tx.strB (nm c.s)))))
  have HV := Lib.hid HV
  go_enter Tryz.func245, Tryz.ntmps245
  go_wp2
  go_region_held3 (fun w' => w'.cell? ⟨w.heap.size, 2, none⟩ = some (.func (.func 107) #[] #[]) ∧ w'.cell? ⟨w.heap.size, 0, none⟩ = some (.func (.func 105) #[] #[]) ∧ w'.cell? ⟨w.heap.size + 1, 0, none⟩ = some (.int .i64 c.k) ∧ w'.cell? ⟨w.heap.size + 1, 1, none⟩ = some (.int .i64 c.n) ∧ w'.cell? ⟨w.heap.size + 1, 2, none⟩ = some (.string c.s)) (go_keep)
    (first
      | (go_at_call 105
         (with_reducible refine (HV.out _).mono ?_)
         rintro e wv ⟨rfl, hg⟩
         have T1 := Lib.hid (((Turn.alloc w _ nowhere).trans (Turn.alloc _ _ nowhere) (fun _ _ h => h)).trans ((Turn.drew _ nowhere).trans (Pk.turn_of hg) (fun _ _ h => h)) (fun _ _ h => h))
         have q0 := (Pk.turn_of hg).cell (p := ⟨w.heap.size, 2, none⟩) (v := .func (.func 107) #[] #[]) (by simp [go_sem]) id
         have q1 := (Pk.turn_of hg).cell (p := ⟨w.heap.size, 0, none⟩) (v := .func (.func 105) #[] #[]) (by simp [go_sem]) id
         have q2 := (Pk.turn_of hg).cell (p := ⟨w.heap.size + 1, 0, none⟩) (v := .int .i64 c.k) (by simp [go_sem]) id
         have q3 := (Pk.turn_of hg).cell (p := ⟨w.heap.size + 1, 1, none⟩) (v := .int .i64 c.n) (by simp [go_sem]) id
         have q4 := (Pk.turn_of hg).cell (p := ⟨w.heap.size + 1, 2, none⟩) (v := .string c.s) (by simp [go_sem]) id
         clear hg)
      | (go_at_call 107
         (with_reducible refine (HP.out _).mono ?_)
         rintro e w2 ⟨a, k, rfl, hs, ht⟩
         have T2 := Lib.hid (T1.out.trans ht (fun _ _ h => h))
         have S2 := Lib.hid hs
         have p0 := ht.cell q0 id
         have p1 := ht.cell q1 id
         have p2 := ht.cell q2 id
         have p3 := ht.cell q3 id
         have p4 := ht.cell q4 id
         clear hs ht)
      | fail)
  go_wp2
  go_ret
  exact ⟨a, k, rfl, S2.out, T2.out⟩
end Go.Proofs.YtljanfnhmhimiaaGreat.Sg

namespace Go.Proofs.YtljanfnhmhimiaaGreat.Sg
open Go.RowKit Go.Joins Zn Zr Dv
open Oct (Rd ReadN ReadV readV ofB)
open In (At turn_read sg)

/-- one value read: the value and the rest, or an error -/
def OneX (b g : Nat) (w : World) (o : Option (Value × List Int)) (e : Ending) (w' : World) : Prop :=
  Turn w w' (At b) ∧ ∃ v er r, e = .returned (.tuple #[v, .int .i64 er]) ∧ Rd w' b g r ∧ Oct.IsB r ∧ r.length ≤ 100000000 ∧ (match (generalizing := false) o with
    | some (x, rest) => er = 0 ∧ v = x ∧ r = rest
    | none => er ≠ 0)
def oneI (bs : List Int) : Option (Value × List Int) := if bs.length < 8 then none else some (.int .i64 (sg (ofB (bs.take 8))), bs.drop 8)
def oneB : List Int → Option (Value × List Int)
  | [] => none
  | v :: t => some (.int .u64 v, t)
def oneT (bs : List Int) : Option (Value × List Int) := match Tx.readS bs with
  | none => none
  | some (s, t) => some (.string (strOfNums s), t)
/-- one cell read: the cell and the rest, or a cell that is none of that kind -/
def CellX (b g : Nat) (kind : Int) (w : World) (o : Option (Cel × List Int)) (e : Ending) (w' : World) : Prop :=
  Turn w w' (At b) ∧ ∃ c r, e = .returned (.agg #[.int .i64 c.k, .int .i64 c.n, .string c.s]) ∧ Rd w' b g r ∧ Oct.IsB r ∧ r.length ≤ 100000000 ∧ (match (generalizing := false) o with
    | some (x, rest) => c = x ∧ r = rest
    | none => ¬ CelOk kind c)

set_option maxHeartbeats 1000000 in
theorem getOne_I (b g : Nat) (bs : List Int) (w : World) (h : Rd w b g bs) (hb : Oct.IsB bs) (hl : bs.length ≤ 100000000) :
    Calls Tryz.prog 93 #[.pointer (some ⟨b, 0, none⟩)] w (OneX b g w (oneI bs)) := by
  unfold oneI
  by_cases h8 : bs.length < 8
  · rw [if_pos h8]
    have HN := Lib.hid (Oct.number_more b g bs 8 w h (by decide) (by decide) (by omega))
    have HF : Hid (OneX b g w none (.returned (.tuple #[.int .i64 0, .int .i64 7])) w) := Lib.hid ⟨Turn.refl _ _, _, _, bs, rfl, h, hb, hl, (by show (7 : Int) ≠ 0; decide)⟩
    clear h hb hl h8
    go_enter Tryz.func93, Tryz.ntmps93
    go_wp2_with fail
    refine HN.out.mono ?_
    rintro e w1 ⟨rfl, rfl⟩
    go_wp2
    go_ret2
    exact HF.out
  · rw [if_neg h8]
    have HN := Lib.hid (Oct.number_yes b g bs 8 w h hb (by decide) (by decide) (by omega))
    obtain ⟨x, hx⟩ : ∃ x, x = ofB (bs.take 8) := ⟨_, rfl⟩
    have hxb := In.ofB_bd8 _ (In.isB_take hb 8) (by rw [List.length_take]; omega)
    have hxe : IntKind.i64.wrap x = sg x := by rw [IntWalk.i64_left]; exact In.wrap_sg _ (by rw [hx]; exact hxb.1) (by rw [hx]; exact hxb.2)
    rw [← hx] at HN ⊢
    have HB := Lib.hid hb
    clear h hb h8 hx hxb
    go_enter Tryz.func93, Tryz.ntmps93
    go_wp2_with fail
    refine HN.out.mono ?_
    rintro e w1 ⟨rfl, hg, hr⟩
    have HF : Hid (OneX b g w (some (.int .i64 (sg x), bs.drop 8)) (.returned (.tuple #[.int .i64 (sg x), .int .i64 0])) w1) := Lib.hid ⟨turn_read hg, _, _, _, rfl, hr, In.isB_drop HB.out 8, by rw [List.length_drop]; omega, rfl, rfl, rfl⟩
    clear hg hr
    dsimp only
    go_wp2
    go_ret2
    exact HF.out

set_option maxHeartbeats 1000000 in
theorem getOne_B (b g : Nat) (bs : List Int) (w : World) (h : Rd w b g bs) (hb : Oct.IsB bs) (hl : bs.length ≤ 100000000) :
    Calls Tryz.prog 101 #[.pointer (some ⟨b, 0, none⟩)] w (OneX b g w (oneB bs)) := by
  cases bs with
  | nil =>
    have HN := Lib.hid (Oct.number_more b g [] 1 w h (by decide) (by decide) (by decide))
    have HF : Hid (OneX b g w none (.returned (.tuple #[.int .u64 0, .int .i64 7])) w) := Lib.hid ⟨Turn.refl _ _, _, _, [], rfl, h, hb, hl, (by show (7 : Int) ≠ 0; decide)⟩
    clear h hb hl
    show Calls _ _ _ _ (OneX b g w none)
    go_enter Tryz.func101, Tryz.ntmps101
    go_wp2_with fail
    refine HN.out.mono ?_
    rintro e w1 ⟨rfl, rfl⟩
    go_wp2
    go_ret2
    exact HF.out
  | cons v t =>
    have hn := Oct.number_yes b g (v :: t) 1 w h hb (by decide) (by decide) (by simp)
    have he : ofB ((v :: t).take 1) = v := by
      show v + 256 * ofB (t.take 0) = v
      rw [List.take_zero]
      show v + 256 * 0 = v
      omega
    have hd : (v :: t).drop 1 = t := rfl
    rw [he, hd] at hn
    have HN := Lib.hid hn
    have HB : Hid (Oct.IsB t ∧ t.length ≤ 100000000) := Lib.hid ⟨fun x hx => hb x (List.mem_cons_of_mem _ hx), by rw [List.length_cons] at hl; omega⟩
    clear h hb hl he hd hn
    show Calls _ _ _ _ (OneX b g w (some (.int .u64 v, t)))
    go_enter Tryz.func101, Tryz.ntmps101
    go_wp2_with fail
    refine HN.out.mono ?_
    rintro e w1 ⟨rfl, hg, hr⟩
    have HF : Hid (OneX b g w (some (.int .u64 v, t)) (.returned (.tuple #[.int .u64 v, .int .i64 0])) w1) := Lib.hid ⟨turn_read hg, _, _, _, rfl, hr, HB.out.1, HB.out.2, rfl, rfl, rfl⟩
    clear hg hr
    dsimp only
    go_wp2
    go_ret2
    exact HF.out

set_option maxHeartbeats 2000000 in
theorem getText_any (b g : Nat) (bs : List Int) (w : World) (h : Rd w b g bs) (hb : Oct.IsB bs) (hl : bs.length ≤ 100000000) :
    Calls Tryz.prog 108 #[.pointer (some ⟨b, 0, none⟩)] w (OneX b g w (oneT bs)) := by
  unfold oneT
  have HVar := Lib.hid (Oct.var_any b g bs w h hb)
  unfold ReadV at HVar
  obtain ⟨v, er, nn, hv⟩ : ∃ v er nn, readV 0 0 bs = (v, er, nn) := ⟨_, _, _, rfl⟩
  have hvb : er = 0 → 0 ≤ v := fun h0 => by subst h0; exact (In.var_readV bs hb v nn hv).1
  unfold Tx.readS
  rw [hv] at HVar ⊢
  dsimp only at HVar ⊢
  obtain ⟨r1, hr1⟩ : ∃ r, bs.drop nn = r := ⟨_, rfl⟩
  have hr1b : Oct.IsB r1 := hr1 ▸ In.isB_drop hb nn
  have hr1l : r1.length ≤ 100000000 := by rw [← hr1, List.length_drop]; omega
  rw [hr1] at HVar ⊢
  have HR1 := Lib.hid hr1b
  have HR2 := Lib.hid hr1l
  clear h hb hv hr1 hr1b hr1l hl
  by_cases he : er = 0
  · subst he
    have hv0 := hvb rfl
    clear hvb
    by_cases hl : 65536 < v
    · rw [if_pos (.inr (.inl hl))]
      dsimp only
      go_enter Tryz.func108, Tryz.ntmps108
      go_wp2_with fail
      refine HVar.out.mono ?_
      rintro e w1 ⟨rfl, hg, hr⟩
      have HF : Hid (OneX b g w none (.returned (.tuple #[.string ⟨#[]⟩, .int .i64 4])) w1) := Lib.hid ⟨turn_read hg, _, _, _, rfl, hr, HR1.out, HR2.out, (by show (4 : Int) ≠ 0; decide)⟩
      clear hg hr
      dsimp only
      go_wp2
      go_ret2
      exact HF.out
    · obtain ⟨m, rfl⟩ := Int.eq_ofNat_of_zero_le hv0
      have hmw : IntKind.i64.wrap (m : Int) = (m : Int) := IntWalk.i64_in _ (by omega)
      by_cases hm : (r1.length : Int) < (m : Int)
      · rw [if_pos (.inr (.inr hm))]
        dsimp only
        go_enter Tryz.func108, Tryz.ntmps108
        go_wp2_with fail
        refine HVar.out.mono ?_
        rintro e w1 ⟨rfl, hg, hr⟩
        have HBy := Lib.hid (In.bytes_more b g r1 (m : Int) w1 hr (by omega) hm)
        have HF : Hid (OneX b g w none (.returned (.tuple #[.string ⟨#[]⟩, .int .i64 7])) w1) := Lib.hid ⟨turn_read hg, _, _, _, rfl, hr, HR1.out, HR2.out, (by show (7 : Int) ≠ 0; decide)⟩
        have hcv : ∀ W : World, (convert 45 9 (.slice none 0 0)).run Tryz.prog W = .ok (.string ⟨#[]⟩) W := fun W => by kernel_rfl
        clear hg hr hm
        dsimp only
        go_wp2_with fail
        refine HBy.out.mono ?_
        rintro e w2 ⟨rfl, rfl⟩
        go_wp2
        go_ret2
        exact HF.out
      · rw [if_neg (by rintro (h | h | h); exact h rfl; exact hl h; exact hm h), Int.toNat_natCast]
        dsimp only
        have hml : m ≤ r1.length := by omega
        have HML := Lib.hid hml
        have hm2 : m ≤ 140737488355328 := by omega
        clear hm hv0 hml
        go_enter Tryz.func108, Tryz.ntmps108
        go_wp2_with fail
        refine HVar.out.mono ?_
        rintro e w1 ⟨rfl, hg, hr⟩
        have HBy := Lib.hid (Oct.bytes_yes b g r1 m w1 hr HML.out hm2)
        have HG1 := Lib.hid hg
        clear hg hr
        dsimp only
        go_wp2_with fail
        refine HBy.out.mono ?_
        rintro e w2 hrb
        obtain ⟨x, q, rfl, hq, hown, hg2, hr2⟩ := hrb.value
        have hcv := Tx.conv_own hown
        have HF : Hid (OneX b g w (some (.string (strOfNums (r1.take m)), r1.drop m)) (.returned (.tuple #[.string (strOfNums (r1.take m)), .int .i64 0])) w2) := Lib.hid
          ⟨(turn_read HG1.out).trans (turn_read hg2) (fun _ _ h => h), _, _, _, rfl, hr2, In.isB_drop HR1.out m, by rw [List.length_drop]; have := HR2.out; omega, rfl, rfl, rfl⟩
        clear hq hown hg2 hr2 hrb HG1
        dsimp only
        go_wp2
        go_ret2
        exact HF.out
  · rw [if_pos (.inl he)]
    dsimp only
    clear hvb
    go_enter Tryz.func108, Tryz.ntmps108
    go_wp2_with fail
    refine HVar.out.mono ?_
    rintro e w1 ⟨rfl, hg, hr⟩
    have HF : Hid (OneX b g w none (.returned (.tuple #[.string ⟨#[]⟩, .int .i64 4])) w1) := Lib.hid ⟨turn_read hg, _, _, _, rfl, hr, HR1.out, HR2.out, (by show (4 : Int) ≠ 0; decide)⟩
    clear hg hr
    dsimp only
    go_wp2
    go_ret2
    exact HF.out
end Go.Proofs.YtljanfnhmhimiaaGreat.Sg
