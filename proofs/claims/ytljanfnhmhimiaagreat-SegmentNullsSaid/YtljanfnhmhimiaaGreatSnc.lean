/-
  What the program's and the document's functions do, in memory and as plain functions: SgRCell, SgRBody, SgRPut, SgLaw, SgBackL, SgCoder, SgOne, SgGet1, SgRRead, SgGet2, SgHeadB, SgCheck, SgHead, SgHead2, SgHead3, SgPuts, SgGets, SgCells, SgGetC, SgZone.
-/
import Derived.Lib.SmallJoins
import Derived.Deep.RegionHeld3
import Derived.Deep.RegionWith
import Derived.BigRegion
import Derived.Deep.Cut
import Derived.Deep.CutRange
import Derived.Deep.DeepCutAuto
import Derived.Test.YtljanfnhmhimiaaGreatSnD
import Derived.Test.YtljanfnhmhimiaaGreatSnE
import Derived.Test.YtljanfnhmhimiaaGreatSnH
import Derived.Test.YtljanfnhmhimiaaGreatSnJ
import Derived.Test.YtljanfnhmhimiaaGreatSnK
import Derived.Test.YtljanfnhmhimiaaGreatSnL
import Derived.Test.YtljanfnhmhimiaaGreatSnM
import Derived.Test.YtljanfnhmhimiaaGreatSnP
import Derived.Test.YtljanfnhmhimiaaGreatSnQ
import Derived.Test.YtljanfnhmhimiaaGreatSnS
import Derived.Test.YtljanfnhmhimiaaGreatSnT
import Derived.Test.YtljanfnhmhimiaaGreatSnU
import Derived.Test.YtljanfnhmhimiaaGreatSnV
import Derived.Test.YtljanfnhmhimiaaGreatSnW
import Derived.Test.YtljanfnhmhimiaaGreatSnX
import Derived.Test.YtljanfnhmhimiaaGreatSnY
import Derived.Test.YtljanfnhmhimiaaGreatSnZ
import Derived.Test.YtljanfnhmhimiaaGreatSna
import Derived.Test.YtljanfnhmhimiaaGreatSnb

namespace Go.Proofs.YtljanfnhmhimiaaGreat.Sg
open Go.RowKit Go.Joins Zn Zr
open Is (IsI info_i64)
open Bs (info_u8)

theorem own_keep {w w' : World} {base e s n : Nat} {v : Value} {xs : List Value} {o : Option Nat} (h : w.ownsRow base e s v n xs) (hg : w.grownBy w' o) (hne : ∀ g, v.ownBlock = some g → o ≠ some g) : w'.ownsRow base e s v n xs := by
  obtain ⟨hl, h⟩ := h
  refine ⟨hl, ?_⟩
  rcases h with ⟨rfl, h0⟩ | ⟨g, cap, cur, rfl, hb, hgg, rest⟩
  · exact .inl ⟨rfl, h0⟩
  · refine .inr ⟨g, cap, cur, rfl, hb, ?_, rest⟩
    rw [hg.block g (Array.getElem?_eq_some_iff.1 hgg).1 (fun e => hne g rfl e.symm)]
    exact hgg
theorem own_apart {w : World} {base e1 e2 s1 s2 n1 n2 : Nat} {v1 v2 : Value} {xs ys : List Value} (h1 : w.ownsRow base e1 s1 v1 n1 xs) (h2 : w.ownsRow base e2 s2 v2 n2 ys) (hne : e1 ≠ e2) : ∀ g, v1.ownBlock = some g → v2.ownBlock ≠ some g := by
  intro g e1' e2'
  rcases h1.2 with ⟨rfl, _⟩ | ⟨g1, cap1, cur1, rfl, _, hg1, _⟩
  · cases e1'
  · rcases h2.2 with ⟨rfl, _⟩ | ⟨g2, cap2, cur2, rfl, _, hg2, _⟩
    · cases e2'
    · obtain rfl : g1 = g := Option.some.inj e1'
      obtain rfl : g2 = g1 := Option.some.inj e2'
      rw [hg1] at hg2
      injection hg2 with hg2
      injection hg2 with _ h3 _
      exact hne h3
def intV (c : Cel) : Value := .int .i64 c.n
def bitV (c : Cel) : Value := .int .u64 (In.u c.n)
def strV (c : Cel) : Value := .string c.s
theorem map_snoc {f : Cel → Value} {l : List Cel} {k : Nat} (h : k < l.length) : (l.take (k + 1)).map f = (l.take k).map f ++ [f (l.getD k zeroC)] := by
  rw [take_snoc l k h, List.map_append]; rfl
theorem int_row (l : List Cel) : l.map intV = (l.map (·.n)).map (Value.int .i64) := by rw [List.map_map]; rfl
theorem bit_row (l : List Cel) : l.map bitV = (l.map fun c => In.u c.n).map (Value.int .u64) := by rw [List.map_map]; rfl
theorem str_row (l : List Cel) : l.map strV = (l.map fun c => nm c.s).map Ss.encW := by
  rw [List.map_map]
  refine List.map_congr_left fun c _ => ?_
  show Value.string c.s = Value.string (strOfNums (nm c.s))
  rw [str_nm]

end Go.Proofs.YtljanfnhmhimiaaGreat.Sg

namespace Go.Proofs.YtljanfnhmhimiaaGreat.Sg
open Go.RowKit Go.Joins Zn Zr
open Is (IsI info_i64)
open Bs (info_u8)
open Nu (roomF fillF encN cnt)

theorem make_bools (S : Nat) (hS : S ≤ 1000000) (W : World) : (Instr.makeSlice 44 (.int .i64 (S : Int)) (.int .i64 (S : Int))).run Tryz.prog W = .ok (.slice (some ⟨W.heap.size, 0, none⟩) S S) (W.alloc (.cells (roomF S) 4)) := by
  obtain ⟨i0, hi, hz0, hz1, hz2⟩ := info_parts Bl.info_bool
  have h := run_make (P := Tryz.prog) W 44 4 i0 (.bool false) Tryz.underlying44 hi hz0 .i64 .i64 (S : Int) (S : Int) (by omega) (by omega) (by rw [hz2]; omega) (by omega)
  rw [hz1, Int.toNat_natCast, Nat.mul_one] at h
  exact h
theorem some_take {l : List Cel} {k : Nat} (h : k < l.length) : someL (l.take (k + 1)) = if (l.getD k zeroC).k = 0 then someL (l.take k) else someL (l.take k) ++ [l.getD k zeroC] := by
  rw [take_snoc l k h, some_app, some_cons]
  by_cases e : (l.getD k zeroC).k = 0
  · rw [if_pos e, if_pos e, show someL [] = [] from rfl, List.append_nil]
  · rw [if_neg e, if_neg e, show someL [] = [] from rfl]
/-- a literal of one cell -/
theorem cell_lit (W : World) (x : Cel) : ∀ (j : Nat) (u : Value), (flatC [x])[j]? = some u → (W.alloc (.cells #[.int .i64 x.k, .int .i64 x.n, .string x.s] 24)).cell? ((⟨W.heap.size, 0, none⟩ : Addr).add j) = some u := by
  have h := (CSeg.lit W [x] (by simp)).at_ _ rfl
  exact h
theorem cseg_row {w : World} {base m : Nat} {v : Value} {l : List Cel} (h : w.ownsRow base 24 3 v m (flatC l)) (hl : l.length = m) : ∃ a c, v = .slice a m c ∧ CSeg w a m c l := by
  rcases h.2 with ⟨rfl, h0⟩ | ⟨g, cap, cur, rfl, _⟩
  · subst h0
    obtain rfl : l = [] := List.length_eq_zero_iff.1 hl
    exact ⟨none, 0, rfl, CSeg.nil w⟩
  · exact ⟨_, _, rfl, CSeg.own h⟩
theorem own_grow {w w' : World} {base e s n : Nat} {v : Value} {xs : List Value} (h : w.ownsRow base e s v n xs) (k : w.grownBy w' none) : w'.ownsRow base e s v n xs := own_keep h k (fun _ _ e => by cases e)
theorem celok_bit {kind : Int} {c : Cel} (h : CelOk kind c) : c.k = 2 → 0 ≤ c.n ∧ c.n < 256 := fun e => by
  rcases cell_form h.ok with q | q | q | q
  · omega
  · omega
  · have := q.2.1; omega
  · omega
theorem cellB_len {kind : Int} {c : Cel} (h : CelOk kind c) : (cellB c).length ≤ 65600 := by
  have hs := cell_len h.ok
  unfold cellB
  by_cases e1 : c.k = 1
  · rw [if_pos e1, In.num8_length]; omega
  · rw [if_neg e1]
    by_cases e2 : c.k = 2
    · rw [if_pos e2]; simp
    · rw [if_neg e2]
      have := Tx.strB_len (nm c.s)
      rw [nm_len] at this
      omega
theorem cseg_at {w : World} {base m c : Nat} {a : Option Addr} {l : List Cel} (h : w.ownsRow base 24 3 (.slice a m c) m (flatC l)) (hl : l.length = m) : CSeg w a m c l := by
  obtain ⟨a', c', e, hs⟩ := cseg_row h hl
  cases e
  exact hs
theorem body_len (kind : Int) {l : List Cel} (hl : l.length ≤ 4096) (h : ∀ c ∈ l, CelOk kind c) : (bodyS kind l).length ≤ 300000000 := by
  unfold bodyS
  by_cases e1 : kind = 1
  · rw [if_pos e1]
    have h1 := In.encB_len 1 (l.map (·.n)) (by rw [List.length_map]; exact hl)
    have h2 := In.encB_len 2 (l.map (·.n)) (by rw [List.length_map]; exact hl)
    have h3 := In.encB_len 3 (l.map (·.n)) (by rw [List.length_map]; exact hl)
    rw [In.best_len]
    omega
  · rw [if_neg e1]
    by_cases e2 : kind = 2
    · rw [if_pos e2]
      have := Pk.put_len (l.map (·.n)) 1
      omega
    · rw [if_neg e2]
      have hb : (Tx.bestT (l.map fun c => nm c.s)).length ≤ (Tx.plainT (l.map fun c => nm c.s)).length := by
        unfold Tx.bestT
        split <;> omega
      have hs := Tx.strsB_len (l.map fun c => nm c.s) (fun s hs => by
        obtain ⟨c, hc, rfl⟩ := List.mem_map.1 hs
        rw [nm_len]
        exact cell_len (h c hc).ok)
      have hv := Oct.varB_le 9 ((l.map fun c => nm c.s).length : Int)
      unfold Tx.plainT at hb
      rw [List.length_cons, List.length_append] at hb
      rw [List.length_map] at hs hv hb
      have h4 : l.length * 65546 ≤ 4096 * 65546 := Nat.mul_le_mul_right _ hl
      omega
end Go.Proofs.YtljanfnhmhimiaaGreat.Sg

namespace Go.Proofs.YtljanfnhmhimiaaGreat.Sg
open Go.RowKit Go.Joins Zn Zr
open Nu (encN)

theorem cell_isB {c : Cel} (hi : c.k = 2 → 0 ≤ c.n ∧ c.n < 256) (hs : c.s.size ≤ 65536) : Oct.IsB (cellB c) := by
  unfold cellB
  by_cases e1 : c.k = 1
  · rw [if_pos e1]; exact In.num8_isB _
  · rw [if_neg e1]
    by_cases e2 : c.k = 2
    · rw [if_pos e2]
      intro x hx
      obtain rfl : x = c.n := by simpa using hx
      exact hi e2
    · rw [if_neg e2]
      exact Tx.strB_isB (nm_isB _) (by rw [nm_len]; omega)
theorem body_isB (kind : Int) {l : List Cel} (hl : l.length ≤ 4096) (h : ∀ c ∈ l, CelOk kind c) : Oct.IsB (bodyS kind l) := by
  unfold bodyS
  by_cases e1 : kind = 1
  · rw [if_pos e1]
    rcases In.best_cases (l.map (·.n)) with e | e | e <;> rw [e]
    · exact In.encB_isB 1 _ (by omega) (by rw [List.length_map]; omega)
    · exact In.encB_isB 2 _ (by omega) (by rw [List.length_map]; omega)
    · exact In.encB_isB 3 _ (by omega) (by rw [List.length_map]; omega)
  · rw [if_neg e1]
    by_cases e2 : kind = 2
    · rw [if_pos e2]; exact (Pk.put_isB _ _).isB
    · rw [if_neg e2]
      have hO : Tx.OkT (l.map fun c => nm c.s) := ⟨by rw [List.length_map]; exact hl, fun s hs => by
        obtain ⟨c, hc, rfl⟩ := List.mem_map.1 hs
        rw [nm_len]
        exact cell_len (h c hc).ok⟩
      have hA : Tx.AllB (l.map fun c => nm c.s) := fun s hs => by
        obtain ⟨c, hc, rfl⟩ := List.mem_map.1 hs
        exact nm_isB _
      unfold Tx.bestT
      split
      · exact Tx.dict_isB' hO hA
      · exact Tx.plain_isB' hO hA
theorem enc_isB {kind : Int} {l : List Cel} (h : Col kind l) : Oct.IsB (encS kind l) := by
  have k1 := h.k1
  have k3 := h.k3
  unfold encS
  intro x hx
  rcases List.mem_cons.1 hx with rfl | hx
  · omega
  · rcases List.mem_append.1 hx with hx | hx
    · exact Nu.enc_isB (by rw [nulls_len]; have := h.few; omega) x hx
    · unfold tailS at hx
      by_cases hs : someL l = []
      · rw [if_pos hs] at hx; cases hx
      · rw [if_neg hs] at hx
        obtain ⟨o1, o2, _⟩ := min_of h hs
        rcases List.mem_append.1 hx with hx | hx
        · exact cell_isB (celok_bit o1) (cell_len o1.ok) x hx
        · rcases List.mem_append.1 hx with hx | hx
          · exact cell_isB (celok_bit o2) (cell_len o2.ok) x hx
          · exact body_isB kind (by have h1 := cnt_nulls l; have := h.few; omega) h.some x hx
/-! ### what the program's functions tell -/
def PutC : Prop := ∀ (kind : Int) (a : Option Addr) (n c : Nat) (l : List Cel) (w : World), CSeg w a n c l → IntOk l → StrsOk l → n ≤ 65536 →
  Calls Tryz.prog 11 #[.int .i64 kind, .slice a n c] w fun e w' => e = .returned (.tuple #[.string (strOfNums (putS kind l).2), .int .i64 (putS kind l).1]) ∧ w.grownBy w' none
def CheckC : Prop := ∀ (kind : Int) (a : Option Addr) (n c : Nat) (l : List Cel) (w : World), CSeg w a n c l → IntOk l → StrsOk l → n ≤ 65536 →
  Calls Tryz.prog 19 #[.int .i64 kind, .slice a n c] w fun e w' => e = .returned (.int .i64 (checkS kind l)) ∧ w.grownBy w' none
set_option maxRecDepth 100000 in
set_option maxHeartbeats 1000000 in
theorem light_any (a : Option Addr) (n c : Nat) (l : List Cel) (w : World) (hs : CSeg w a n c l) (ho : StrsOk l) :
    Calls Tryz.prog 15 #[.slice a n c] w (LightX n 60 w) := by
  have H := Lib.hid (lightCells_any a n c l w hs ho)
  clear hs ho
  go_enter Tryz.func15, Tryz.ntmps15
  go_wp2_with fail
  refine H.out.mono ?_
  rintro e w' ⟨b, rfl, hb, rfl⟩
  have HB := Lib.hid hb
  clear hb
  dsimp only
  go_wp2
  go_ret
  exact ⟨b, rfl, HB.out, rfl⟩

def l2 : List Cel := [⟨2, 1, ⟨#[]⟩⟩, zeroC]
theorem put_l2 : putS 2 l2 = (0, [2, 2, 2, 2, 1, 1, 1]) := by decide +kernel
set_option maxRecDepth 100000 in
set_option maxHeartbeats 2000000 in
theorem lives_any (HP : PutC) (w : World) : Calls Tryz.prog 9 #[] w fun e w' => e = .returned (.bool true) ∧ w.grownBy w' none := by
  have hl : CSeg (w.alloc (.cells #[.int .i64 2, .int .i64 1, .string ⟨#[]⟩, .int .i64 0, .int .i64 0, .string ⟨#[]⟩] 24)) (some ⟨w.heap.size, 0, none⟩) 2 2 l2 := CSeg.lit w l2 (by decide)
  have hp := HP 2 _ 2 2 l2 _ hl (fun x hx => by
    rcases List.mem_cons.1 hx with rfl | hx
    · decide
    · obtain rfl : x = zeroC := by simpa using hx
      decide) (fun x hx => by
    rcases List.mem_cons.1 hx with rfl | hx
    · show (0 : Nat) ≤ 140737488355328; omega
    · obtain rfl : x = zeroC := by simpa using hx
      show (0 : Nat) ≤ 140737488355328; omega) (by decide)
  rw [put_l2] at hp
  obtain ⟨S, hS⟩ : ∃ S, S = strOfNums [2, 2, 2, 2, 1, 1, 1] := ⟨_, rfl⟩
  have hp2 := hp.mono fun e w' (h : _ ∧ _) => (show e = .returned (.tuple #[.string S, .int .i64 0]) ∧ (w.alloc (.cells #[.int .i64 2, .int .i64 1, .string ⟨#[]⟩, .int .i64 0, .int .i64 0, .string ⟨#[]⟩] 24)).grownBy w' none from ⟨by rw [h.1, hS], h.2⟩)
  have q1 : (S.toList == ([2, 2, 2, 2, 1, 1, 1] : List UInt8)) = true := by rw [hS, Go.ByteArray.toList_eq]; decide +kernel
  have HPP := Lib.hid hp2
  clear hp hp2 hl hS HP
  go_enter Tryz.func9, Tryz.ntmps9
  go_wp2_with fail
  refine HPP.out.mono ?_
  rintro e w1 ⟨rfl, hg⟩
  have G1 := Lib.hid (grown_then (grown_alloc w _) hg)
  clear hg HPP
  dsimp only
  go_wp2
  go_ret
  exact ⟨rfl, G1.out⟩
end Go.Proofs.YtljanfnhmhimiaaGreat.Sg

namespace Go.Proofs.YtljanfnhmhimiaaGreat.Sg
open Go.RowKit Go.Joins Zn Zr Dv

theorem info_I : (Tryz.prog.info? 99).map (·.size) = some 6 := by kernel_rfl
theorem wpList_store_I (b : Nat) {w : World} {ops : Array Oper} {rest : List Oper} {o : Oper} {a : Act} {Q : Exit → Act → World → Prop} (hgd : o.guard = none) (x y : Operand) (ho : o.op = .store 99 x y)
    (g : Nat) (hx : a.eval x = .pointer (some ⟨g, 0, none⟩)) (hy : a.eval y = .agg #[.func (.func 89) #[] #[], .func (.func 90) #[] #[], .func (.func 91) #[] #[], .func (.func 93) #[] #[], .func (.func 95) #[] #[], .func (.func 140) #[] #[.pointer (some ⟨b, 0, none⟩)]]) (old : Array Value) (hg : w.heap[g]? = some (.cells old 99 (0, 0))) (hold : old.size = 6)
    (h : ∀ w', w'.heap[g]? = some (.cells #[.func (.func 89) #[] #[], .func (.func 90) #[] #[], .func (.func 91) #[] #[], .func (.func 93) #[] #[], .func (.func 95) #[] #[], .func (.func 140) #[] #[.pointer (some ⟨b, 0, none⟩)]] 99 (0, 0)) → Turn w w' (· = g) → wpList Tryz.prog ops Q rest (a.put o.dst undef) w') : wpList Tryz.prog ops Q (o :: rest) a w := by
  refine wpList_store_row hgd _ x y ho g _ hx hy _ _ hg info_I hold (by simp [Value.oneCell']) ?_
  exact h _ (setRow_heap w g _ _ _ _ hg) ⟨rfl, rfl, rfl, by simp [World.setRow], fun k _ hk => setRow_other w g k _ hk⟩
/-- the box that holds the library's function -/
def BoxI (w : World) (b : Nat) : Prop := w.heap[b]? = some (.cells #[.func (.func 97) #[] #[]] 140 (0, 0))
theorem BoxI.old {w w' : World} {b : Nat} (h : BoxI w b) (k : Turn w w' nowhere) : BoxI w' b := block_old h k.grown
theorem BoxI.cell {w : World} {b : Nat} (h : BoxI w b) : w.cell? ⟨b, 0, none⟩ = some (.func (.func 97) #[] #[]) := by
  unfold BoxI at h
  rw [cell_of_row _ _ _ _ _ _ h]; rfl
/-- a coder made -/
def MadeI (w : World) (e : Ending) (w' : World) : Prop := ∃ b, e = .returned (.agg #[.func (.func 89) #[] #[], .func (.func 90) #[] #[], .func (.func 91) #[] #[], .func (.func 93) #[] #[], .func (.func 95) #[] #[], .func (.func 140) #[] #[.pointer (some ⟨b, 0, none⟩)]]) ∧ BoxI w' b ∧ Turn w w' nowhere
set_option maxHeartbeats 1000000 in
theorem codec_I (w : World) : Calls Tryz.prog 53 #[] w (MadeI w) := by
  have q := Lib.hid (heap_alloc_new w (.cells #[.nilFunc, .nilFunc, .nilFunc, .nilFunc, .nilFunc, .nilFunc] 99))
  have HX := Lib.hid (fun W => exactly_I W)
  go_enter Tryz.func53, Tryz.ntmps53
  go_wp2_with fail
  refine (HX.out _).mono ?_
  rintro e w1 ⟨rfl, hw1⟩
  have hb : BoxI w1 (w.alloc (.cells #[.nilFunc, .nilFunc, .nilFunc, .nilFunc, .nilFunc, .nilFunc] 99)).heap.size := by rw [hw1]; exact heap_alloc_new _ _
  have ht : Turn w w1 nowhere := by rw [hw1]; exact (Turn.alloc w _ nowhere).trans (Turn.alloc _ _ nowhere) (fun _ _ h => h)
  have hq : w1.heap[w.heap.size]? = some (.cells #[.nilFunc, .nilFunc, .nilFunc, .nilFunc, .nilFunc, .nilFunc] 99 (0, 0)) := by rw [hw1]; exact (Below.heap_alloc _ _ _ (by simp)).trans q.out
  rw [World.size_alloc] at hb
  have HB := Lib.hid hb
  have HT := Lib.hid ht
  have HQ := Lib.hid hq
  have hz : w.heap.size < w1.heap.size := by rw [hw1]; simp; omega
  clear hw1 hb ht hq q
  go_wp2_with (first
    | (with_reducible refine wpList_store_I (w.heap.size + 1) rfl (.tmp 0) (.tmp 2) rfl w.heap.size rfl rfl _ HQ.out rfl ?_; intro w2 hq2 ht2)
    | fail)
  have HF : Hid (MadeI w (.returned (.agg #[.func (.func 89) #[] #[], .func (.func 90) #[] #[], .func (.func 91) #[] #[], .func (.func 93) #[] #[], .func (.func 95) #[] #[], .func (.func 140) #[] #[.pointer (some ⟨w.heap.size + 1, 0, none⟩)]])) w2) := Lib.hid ⟨w.heap.size + 1, rfl, block_turn HB.out ht2 (by omega), Pk.turn_of (grown_put HT.out.grown ht2 (Nat.le_refl _))⟩
  refine bodyPost_ret (v := .agg #[.func (.func 89) #[] #[], .func (.func 90) #[] #[], .func (.func 91) #[] #[], .func (.func 93) #[] #[], .func (.func 95) #[] #[], .func (.func 140) #[] #[.pointer (some ⟨w.heap.size + 1, 0, none⟩)]]) (run_results_row rfl _ _ _ _ _ (0, 0) _ rfl hq2 Tryz.underlying99 rfl info_I) rfl HF.out

theorem info_B : (Tryz.prog.info? 108).map (·.size) = some 6 := by kernel_rfl
theorem wpList_store_B {w : World} {ops : Array Oper} {rest : List Oper} {o : Oper} {a : Act} {Q : Exit → Act → World → Prop} (hgd : o.guard = none) (x y : Operand) (ho : o.op = .store 108 x y)
    (g : Nat) (hx : a.eval x = .pointer (some ⟨g, 0, none⟩)) (hy : a.eval y = .agg #[.func (.func 98) #[] #[], .func (.func 99) #[] #[], .func (.func 100) #[] #[], .func (.func 101) #[] #[], .func (.func 102) #[] #[], .func (.func 103) #[] #[]]) (old : Array Value) (hg : w.heap[g]? = some (.cells old 108 (0, 0))) (hold : old.size = 6)
    (h : ∀ w', w'.heap[g]? = some (.cells #[.func (.func 98) #[] #[], .func (.func 99) #[] #[], .func (.func 100) #[] #[], .func (.func 101) #[] #[], .func (.func 102) #[] #[], .func (.func 103) #[] #[]] 108 (0, 0)) → Turn w w' (· = g) → wpList Tryz.prog ops Q rest (a.put o.dst undef) w') : wpList Tryz.prog ops Q (o :: rest) a w := by
  refine wpList_store_row hgd _ x y ho g _ hx hy _ _ hg info_B hold (by simp [Value.oneCell']) ?_
  exact h _ (setRow_heap w g _ _ _ _ hg) ⟨rfl, rfl, rfl, by simp [World.setRow], fun k _ hk => setRow_other w g k _ hk⟩
set_option maxHeartbeats 1000000 in
theorem codec_B (w : World) : Calls Tryz.prog 54 #[] w fun e w' => e = .returned (.agg #[.func (.func 98) #[] #[], .func (.func 99) #[] #[], .func (.func 100) #[] #[], .func (.func 101) #[] #[], .func (.func 102) #[] #[], .func (.func 103) #[] #[]]) ∧ Turn w w' nowhere := by
  have q := Lib.hid (heap_alloc_new w (.cells #[.nilFunc, .nilFunc, .nilFunc, .nilFunc, .nilFunc, .nilFunc] 108))
  have HG := Lib.hid (grown_alloc w (.cells #[.nilFunc, .nilFunc, .nilFunc, .nilFunc, .nilFunc, .nilFunc] 108))
  go_enter Tryz.func54, Tryz.ntmps54
  go_wp2_with (first
    | (with_reducible refine wpList_store_B rfl (.tmp 0) (.tmp 1) rfl w.heap.size rfl rfl _ q.out rfl ?_; intro w2 hq2 ht2)
    | fail)
  refine bodyPost_ret (v := .agg #[.func (.func 98) #[] #[], .func (.func 99) #[] #[], .func (.func 100) #[] #[], .func (.func 101) #[] #[], .func (.func 102) #[] #[], .func (.func 103) #[] #[]]) (run_results_row rfl _ _ _ _ _ (0, 0) _ rfl hq2 Tryz.underlying108 rfl info_B) rfl ⟨rfl, Pk.turn_of (grown_put HG.out ht2 (Nat.le_refl _))⟩

theorem info_T : (Tryz.prog.info? 117).map (·.size) = some 6 := by kernel_rfl
theorem wpList_store_T (b : Nat) {w : World} {ops : Array Oper} {rest : List Oper} {o : Oper} {a : Act} {Q : Exit → Act → World → Prop} (hgd : o.guard = none) (x y : Operand) (ho : o.op = .store 117 x y)
    (g : Nat) (hx : a.eval x = .pointer (some ⟨g, 0, none⟩)) (hy : a.eval y = .agg #[.func (.func 105) #[] #[], .func (.func 106) #[] #[], .func (.func 107) #[] #[], .func (.func 108) #[] #[], .func (.func 109) #[] #[], .func (.func 146) #[] #[.pointer (some ⟨b, 0, none⟩)]]) (old : Array Value) (hg : w.heap[g]? = some (.cells old 117 (0, 0))) (hold : old.size = 6)
    (h : ∀ w', w'.heap[g]? = some (.cells #[.func (.func 105) #[] #[], .func (.func 106) #[] #[], .func (.func 107) #[] #[], .func (.func 108) #[] #[], .func (.func 109) #[] #[], .func (.func 146) #[] #[.pointer (some ⟨b, 0, none⟩)]] 117 (0, 0)) → Turn w w' (· = g) → wpList Tryz.prog ops Q rest (a.put o.dst undef) w') : wpList Tryz.prog ops Q (o :: rest) a w := by
  refine wpList_store_row hgd _ x y ho g _ hx hy _ _ hg info_T hold (by simp [Value.oneCell']) ?_
  exact h _ (setRow_heap w g _ _ _ _ hg) ⟨rfl, rfl, rfl, by simp [World.setRow], fun k _ hk => setRow_other w g k _ hk⟩
/-- the box that holds the library's function -/
def BoxT (w : World) (b : Nat) : Prop := w.heap[b]? = some (.cells #[.func (.func 111) #[] #[]] 144 (0, 0))
theorem BoxT.old {w w' : World} {b : Nat} (h : BoxT w b) (k : Turn w w' nowhere) : BoxT w' b := block_old h k.grown
theorem BoxT.cell {w : World} {b : Nat} (h : BoxT w b) : w.cell? ⟨b, 0, none⟩ = some (.func (.func 111) #[] #[]) := by
  unfold BoxT at h
  rw [cell_of_row _ _ _ _ _ _ h]; rfl
/-- a coder made -/
def MadeT (w : World) (e : Ending) (w' : World) : Prop := ∃ b, e = .returned (.agg #[.func (.func 105) #[] #[], .func (.func 106) #[] #[], .func (.func 107) #[] #[], .func (.func 108) #[] #[], .func (.func 109) #[] #[], .func (.func 146) #[] #[.pointer (some ⟨b, 0, none⟩)]]) ∧ BoxT w' b ∧ Turn w w' nowhere
set_option maxHeartbeats 1000000 in
theorem codec_T (w : World) : Calls Tryz.prog 55 #[] w (MadeT w) := by
  have q := Lib.hid (heap_alloc_new w (.cells #[.nilFunc, .nilFunc, .nilFunc, .nilFunc, .nilFunc, .nilFunc] 117))
  have HX := Lib.hid (fun W => exactly_T W)
  go_enter Tryz.func55, Tryz.ntmps55
  go_wp2_with fail
  refine (HX.out _).mono ?_
  rintro e w1 ⟨rfl, hw1⟩
  have hb : BoxT w1 (w.alloc (.cells #[.nilFunc, .nilFunc, .nilFunc, .nilFunc, .nilFunc, .nilFunc] 117)).heap.size := by rw [hw1]; exact heap_alloc_new _ _
  have ht : Turn w w1 nowhere := by rw [hw1]; exact (Turn.alloc w _ nowhere).trans (Turn.alloc _ _ nowhere) (fun _ _ h => h)
  have hq : w1.heap[w.heap.size]? = some (.cells #[.nilFunc, .nilFunc, .nilFunc, .nilFunc, .nilFunc, .nilFunc] 117 (0, 0)) := by rw [hw1]; exact (Below.heap_alloc _ _ _ (by simp)).trans q.out
  rw [World.size_alloc] at hb
  have HB := Lib.hid hb
  have HT := Lib.hid ht
  have HQ := Lib.hid hq
  have hz : w.heap.size < w1.heap.size := by rw [hw1]; simp; omega
  clear hw1 hb ht hq q
  go_wp2_with (first
    | (with_reducible refine wpList_store_T (w.heap.size + 1) rfl (.tmp 0) (.tmp 2) rfl w.heap.size rfl rfl _ HQ.out rfl ?_; intro w2 hq2 ht2)
    | fail)
  have HF : Hid (MadeT w (.returned (.agg #[.func (.func 105) #[] #[], .func (.func 106) #[] #[], .func (.func 107) #[] #[], .func (.func 108) #[] #[], .func (.func 109) #[] #[], .func (.func 146) #[] #[.pointer (some ⟨w.heap.size + 1, 0, none⟩)]])) w2) := Lib.hid ⟨w.heap.size + 1, rfl, block_turn HB.out ht2 (by omega), Pk.turn_of (grown_put HT.out.grown ht2 (Nat.le_refl _))⟩
  refine bodyPost_ret (v := .agg #[.func (.func 105) #[] #[], .func (.func 106) #[] #[], .func (.func 107) #[] #[], .func (.func 108) #[] #[], .func (.func 109) #[] #[], .func (.func 146) #[] #[.pointer (some ⟨w.heap.size + 1, 0, none⟩)]]) (run_results_row rfl _ _ _ _ _ (0, 0) _ rfl hq2 Tryz.underlying117 rfl info_T) rfl HF.out

/-- a coder of that kind, in an interface -/
def CodV (w : World) (kind : Int) (v : Value) : Prop :=
  (kind = 1 ∧ ∃ b, v = .iface 99 (.agg #[.func (.func 89) #[] #[], .func (.func 90) #[] #[], .func (.func 91) #[] #[], .func (.func 93) #[] #[], .func (.func 95) #[] #[], .func (.func 140) #[] #[.pointer (some ⟨b, 0, none⟩)]]) ∧ BoxI w b) ∨ (kind = 2 ∧ v = .iface 108 (.agg #[.func (.func 98) #[] #[], .func (.func 99) #[] #[], .func (.func 100) #[] #[], .func (.func 101) #[] #[], .func (.func 102) #[] #[], .func (.func 103) #[] #[]])) ∨ (kind = 3 ∧ ∃ b, v = .iface 117 (.agg #[.func (.func 105) #[] #[], .func (.func 106) #[] #[], .func (.func 107) #[] #[], .func (.func 108) #[] #[], .func (.func 109) #[] #[], .func (.func 146) #[] #[.pointer (some ⟨b, 0, none⟩)]]) ∧ BoxT w b)
theorem CodV.old {w w' : World} {kind : Int} {v : Value} (h : CodV w kind v) (k : Turn w w' nowhere) : CodV w' kind v := by
  rcases h with ⟨h1, b, h2, h3⟩ | h | ⟨h1, b, h2, h3⟩
  · exact .inl ⟨h1, b, h2, h3.old k⟩
  · exact .inr (.inl h)
  · exact .inr (.inr ⟨h1, b, h2, h3.old k⟩)
def CoderX (w : World) (kind : Int) (e : Ending) (w' : World) : Prop := ∃ v, e = .returned v ∧ CodV w' kind v ∧ Turn w w' nowhere

set_option maxHeartbeats 1000000 in
theorem coderOf_I (w : World) : Calls Tryz.prog 31 #[.int .i64 1] w (CoderX w 1) := by
  have HC := Lib.hid (fun W => codec_I W)
  go_enter Tryz.func31, Tryz.ntmps31
  go_wp2_with fail
  refine (HC.out _).mono ?_
  rintro e w1 ⟨b, rfl, hb, ht⟩
  have HF : Hid (CoderX w 1 (.returned (.iface 99 (.agg #[.func (.func 89) #[] #[], .func (.func 90) #[] #[], .func (.func 91) #[] #[], .func (.func 93) #[] #[], .func (.func 95) #[] #[], .func (.func 140) #[] #[.pointer (some ⟨b, 0, none⟩)]]))) w1) := Lib.hid ⟨_, rfl, .inl ⟨rfl, b, rfl, hb⟩, ht⟩
  clear hb ht
  go_wp2
  go_ret
  exact HF.out
set_option maxHeartbeats 1000000 in
theorem coderOf_B (w : World) : Calls Tryz.prog 31 #[.int .i64 2] w (CoderX w 2) := by
  have HC := Lib.hid (fun W => codec_B W)
  go_enter Tryz.func31, Tryz.ntmps31
  go_wp2_with fail
  refine (HC.out _).mono ?_
  rintro e w1 ⟨rfl, ht⟩
  have HF : Hid (CoderX w 2 (.returned (.iface 108 (.agg #[.func (.func 98) #[] #[], .func (.func 99) #[] #[], .func (.func 100) #[] #[], .func (.func 101) #[] #[], .func (.func 102) #[] #[], .func (.func 103) #[] #[]]))) w1) := Lib.hid ⟨_, rfl, .inr (.inl ⟨rfl, rfl⟩), ht⟩
  clear ht
  go_wp2
  go_ret
  exact HF.out
set_option maxHeartbeats 1000000 in
theorem coderOf_T (w : World) : Calls Tryz.prog 31 #[.int .i64 3] w (CoderX w 3) := by
  have HC := Lib.hid (fun W => codec_T W)
  go_enter Tryz.func31, Tryz.ntmps31
  go_wp2_with fail
  refine (HC.out _).mono ?_
  rintro e w1 ⟨b, rfl, hb, ht⟩
  have HF : Hid (CoderX w 3 (.returned (.iface 117 (.agg #[.func (.func 105) #[] #[], .func (.func 106) #[] #[], .func (.func 107) #[] #[], .func (.func 108) #[] #[], .func (.func 109) #[] #[], .func (.func 146) #[] #[.pointer (some ⟨b, 0, none⟩)]]))) w1) := Lib.hid ⟨_, rfl, .inr (.inr ⟨rfl, b, rfl, hb⟩), ht⟩
  clear hb ht
  go_wp2
  go_ret
  exact HF.out
theorem coderOf_any (kind : Int) (w : World) (k1 : 1 ≤ kind) (k3 : kind ≤ 3) : Calls Tryz.prog 31 #[.int .i64 kind] w (CoderX w kind) := by
  rcases (by omega : kind = 1 ∨ kind = 2 ∨ kind = 3) with rfl | rfl | rfl
  · exact coderOf_I w
  · exact coderOf_B w
  · exact coderOf_T w
set_option maxHeartbeats 1000000 in
theorem coderOf_no (kind : Int) (w : World) (h : kind < 1 ∨ 3 < kind) : Calls Tryz.prog 31 #[.int .i64 kind] w fun e w' => e = .returned .nilIface ∧ w = w' := by
  have q1 : (kind == 1) = false := beq_eq_false_iff_ne.2 (by omega)
  have q2 : (kind == 2) = false := beq_eq_false_iff_ne.2 (by omega)
  have q3 : (kind == 3) = false := beq_eq_false_iff_ne.2 (by omega)
  go_enter Tryz.func31, Tryz.ntmps31
  go_wp2
  go_ret
  exact ⟨rfl, rfl⟩
end Go.Proofs.YtljanfnhmhimiaaGreat.Sg

namespace Go.Proofs.YtljanfnhmhimiaaGreat.Sg
open Go.RowKit Go.Joins Zn Zr Dv
open Bs (info_u8)

set_option maxHeartbeats 1000000 in
theorem value_I (c : Cel) (w : World) : Calls Tryz.prog 89 #[.agg #[.int .i64 c.k, .int .i64 c.n, .string c.s]] w fun e w' => e = .returned (.int .i64 c.n) ∧ w.grownBy w' none := by
  have HG := Lib.hid (grown_alloc w (.cells #[.int .i64 c.k, .int .i64 c.n, .string c.s] 24))
  go_enter Tryz.func89, Tryz.ntmps89
  go_wp2
  go_ret
  exact ⟨rfl, HG.out⟩

set_option maxHeartbeats 1000000 in
theorem value_B (c : Cel) (w : World) : Calls Tryz.prog 98 #[.agg #[.int .i64 c.k, .int .i64 c.n, .string c.s]] w fun e w' => e = .returned (.int .u64 (In.u c.n)) ∧ w.grownBy w' none := by
  have HG := Lib.hid (grown_alloc w (.cells #[.int .i64 c.k, .int .i64 c.n, .string c.s] 24))
  have hw : IntKind.u64.wrap c.n = In.u c.n := In.conv_u c.n
  go_enter Tryz.func98, Tryz.ntmps98
  go_wp2
  go_ret
  exact ⟨rfl, HG.out⟩

set_option maxHeartbeats 1000000 in
theorem value_T (c : Cel) (w : World) : Calls Tryz.prog 105 #[.agg #[.int .i64 c.k, .int .i64 c.n, .string c.s]] w fun e w' => e = .returned (.string c.s) ∧ w.grownBy w' none := by
  have HG := Lib.hid (grown_alloc w (.cells #[.int .i64 c.k, .int .i64 c.n, .string c.s] 24))
  go_enter Tryz.func105, Tryz.ntmps105
  go_wp2
  go_ret
  exact ⟨rfl, HG.out⟩

/-- bytes handed back, new memory -/
def BytesX (w : World) (m : Nat) (B : List Int) (e : Ending) (w' : World) : Prop := ∃ a k, e = .returned (.slice a m k) ∧ Bs.Seg w' a m k B ∧ Turn w w' nowhere
theorem bytes_of {w w' : World} {B : List Int} {e : Ending} {m : Nat} (hm : B.length = m) (h : Oct.NewB w B e w') : BytesX w m B e w' := by
  obtain ⟨g, q, rfl, hf⟩ := h.value
  obtain ⟨hq, hown, hg⟩ := hf.is
  obtain rfl : q = m := hq.trans hm
  exact ⟨_, _, rfl, In.bseg (Oct.Seg.own hown), Pk.turn_of hg⟩

set_option maxHeartbeats 1000000 in
theorem putOne_I (v : Int) (w : World) : Calls Tryz.prog 91 #[.int .i64 v] w (BytesX w 8 (In.num8 v)) := by
  have hw : IntKind.u64.wrap v = In.u v := In.conv_u v
  have HP := Lib.hid (Oct.put_yes none 0 0 [] (In.u v) 8 w (Oct.Seg.nil w) (In.u_bd v).1 (In.u_bd v).2 (by decide) (by decide) (by decide))
  go_enter Tryz.func91, Tryz.ntmps91
  go_wp2_with fail
  refine HP.out.mono ?_
  rintro e w1 hnew
  rw [List.nil_append] at hnew
  have HF := Lib.hid (bytes_of (m := 8) (In.num8_length v) hnew)
  obtain ⟨g, q, rfl, hf⟩ := hnew.value
  clear hf hw
  go_wp2
  go_ret
  exact HF.out

set_option maxHeartbeats 1000000 in
theorem putOne_B (v : Int) (h0 : 0 ≤ v) (h1 : v < 256) (w : World) : Calls Tryz.prog 100 #[.int .u64 v] w (BytesX w 1 [v]) := by
  have HP := Lib.hid (Oct.put_yes none 0 0 [] v 1 w (Oct.Seg.nil w) h0 (by omega) (by decide) (by decide) (by decide))
  have HE : Hid ([] ++ Oct.putB 1 v = [v]) := Lib.hid (by rw [List.nil_append]; show [v % 256] = [v]; rw [Int.emod_eq_of_lt h0 h1])
  go_enter Tryz.func100, Tryz.ntmps100
  go_wp2_with fail
  refine HP.out.mono ?_
  rintro e w1 hnew
  rw [HE.out] at hnew
  have HF := Lib.hid (bytes_of (m := 1) rfl hnew)
  obtain ⟨g, q, rfl, hf⟩ := hnew.value
  clear hf
  go_wp2
  go_ret
  exact HF.out

set_option maxHeartbeats 1000000 in
theorem putOne_T (x : List Int) (m : Nat) (hx : Bs.IsB x) (hl : x.length ≤ 65536) (hm : (Tx.strB x).length = m) (w : World) : Calls Tryz.prog 107 #[.string (strOfNums x)] w (BytesX w m (Tx.strB x)) := by
  obtain ⟨i0, hi, hz0, hz1, hz2⟩ := info_parts info_u8
  have hss := strOfNums_size x
  obtain ⟨xl, hxe⟩ : ∃ n, x.length = n := ⟨_, rfl⟩
  rw [hxe] at hss hl
  have hwu := Tx.wrap_u64 (n := xl) (by omega)
  have HPut := Lib.hid (Oct.putVar_any none 0 0 [] (xl : Int) w (Oct.Seg.nil w) (by omega) (by omega) (by omega))
  have hvl := Oct.varB_le 9 (xl : Int)
  have HSS := Lib.hid hss
  have HX := Lib.hid hx
  have HXE := Lib.hid hxe
  have HM : Hid ((Oct.varB 9 (xl : Int) ++ x).length = m) := Lib.hid (by rw [← hm, ← hxe]; rfl)
  have HS : Hid (Tx.strB x = Oct.varB 9 (xl : Int) ++ x) := Lib.hid (by rw [← hxe]; rfl)
  clear hm hx hxe
  go_enter Tryz.func107, Tryz.ntmps107
  go_wp2_with fail
  refine HPut.out.mono ?_
  rintro e w1 hnew
  rw [List.nil_append] at hnew
  obtain ⟨g, p, rfl, hf⟩ := hnew.value
  obtain ⟨hp, hown1, hg⟩ := hf.is
  rw [← hp] at hvl
  have HPl := Lib.hid hp
  have HO1 := Lib.hid hown1
  have HG1 := Lib.hid hg
  have HS2 : Hid (w.heap.size ≤ w1.heap.size) := Lib.hid hg.size
  clear hnew hf hown1 hg hp
  go_wp2_with (at_builtin; refine Lib.wpList_append_own_string _ rfl _ _ 45 9 rfl w.heap.size 5 i0 Tryz.underlying45 Tryz.underlying9 hi hz0 hz1 hz2 _ p _ rfl HO1.out (strOfNums x) rfl (by rw [HSS.out]; unfold maxLen; omega) (by rw [HSS.out]; omega) HS2.out ?_; intro v3 w3 hown3 hgrow3 hnil3)
  rw [HSS.out, Tx.strCells_nums x HX.out, ← List.map_append] at hown3
  obtain ⟨g3, c3, rfl⟩ := Nu.ownsRow_form hown3 (by have := HPl.out; have := Oct.varB_pos 9 (xl : Int); omega)
  have HF : Hid (BytesX w m (Tx.strB x) (.returned (.slice (some ⟨g3, 0, none⟩) (p + xl) c3)) w3) := Lib.hid (by
    have h1 := HM.out
    rw [List.length_append, ← HPl.out, HXE.out] at h1
    rw [HS.out, ← h1]
    exact ⟨_, _, rfl, Bs.Seg.own hown3, Pk.turn_of (Bs.grownBy_trans HG1.out hgrow3 (fun i e => (HO1.out.lt i e).1))⟩)
  clear hown3 hgrow3 hnil3
  go_wp2
  go_ret
  exact HF.out

set_option maxRecDepth 100000 in
set_option maxHeartbeats 2000000 in
theorem putCell_I (b : Nat) (c : Cel) (w : World) : Calls Tryz.prog 237 #[.agg #[.func (.func 89) #[] #[], .func (.func 90) #[] #[], .func (.func 91) #[] #[], .func (.func 93) #[] #[], .func (.func 95) #[] #[], .func (.func 140) #[] #[.pointer (some ⟨b, 0, none⟩)]], .agg #[.int .i64 c.k, .int .i64 c.n, .string c.s]] w (BytesX w 8 (In.num8 c.n)) := by
  have HV := fun W => value_I c W

  have HP := Lib.hid (fun W => putOne_I c.n W)
  have HV := Lib.hid HV
  go_enter Tryz.func237, Tryz.ntmps237
  go_wp2
  go_region_held3 (fun w' => w'.cell? ⟨w.heap.size, 2, none⟩ = some (.func (.func 91) #[] #[]) ∧ w'.cell? ⟨w.heap.size, 0, none⟩ = some (.func (.func 89) #[] #[]) ∧ w'.cell? ⟨w.heap.size + 1, 0, none⟩ = some (.int .i64 c.k) ∧ w'.cell? ⟨w.heap.size + 1, 1, none⟩ = some (.int .i64 c.n) ∧ w'.cell? ⟨w.heap.size + 1, 2, none⟩ = some (.string c.s)) (go_keep)
    (first
      | (go_at_call 89
         (with_reducible refine (HV.out _).mono ?_)
         rintro e wv ⟨rfl, hg⟩
         have T1 := Lib.hid (((Turn.alloc w _ nowhere).trans (Turn.alloc _ _ nowhere) (fun _ _ h => h)).trans ((Turn.drew _ nowhere).trans (Pk.turn_of hg) (fun _ _ h => h)) (fun _ _ h => h))
         have q0 := (Pk.turn_of hg).cell (p := ⟨w.heap.size, 2, none⟩) (v := .func (.func 91) #[] #[]) (by simp [go_sem]) id
         have q1 := (Pk.turn_of hg).cell (p := ⟨w.heap.size, 0, none⟩) (v := .func (.func 89) #[] #[]) (by simp [go_sem]) id
         have q2 := (Pk.turn_of hg).cell (p := ⟨w.heap.size + 1, 0, none⟩) (v := .int .i64 c.k) (by simp [go_sem]) id
         have q3 := (Pk.turn_of hg).cell (p := ⟨w.heap.size + 1, 1, none⟩) (v := .int .i64 c.n) (by simp [go_sem]) id
         have q4 := (Pk.turn_of hg).cell (p := ⟨w.heap.size + 1, 2, none⟩) (v := .string c.s) (by simp [go_sem]) id
         clear hg)
      | (go_at_call 91
         (with_reducible refine (HP.out _).mono ?_)
         rintro e w2 ⟨a, k, rfl, hs, ht⟩
         have T2 := Lib.hid (T1.out.trans ht (fun _ _ h => h))
         have S2 := Lib.hid hs
         have p0 := ht.cell q0 id
         have p1 := ht.cell q1 id
         have p2 := ht.cell q2 id
         have p3 := ht.cell q3 id
         have p4 := ht.cell q4 id
         clear hs ht)
      | fail)
  go_wp2
  go_ret
  exact ⟨a, k, rfl, S2.out, T2.out⟩

set_option maxRecDepth 100000 in
set_option maxHeartbeats 2000000 in
theorem putCell_B (c : Cel) (h0 : 0 ≤ c.n) (h1 : c.n < 256) (w : World) : Calls Tryz.prog 241 #[.agg #[.func (.func 98) #[] #[], .func (.func 99) #[] #[], .func (.func 100) #[] #[], .func (.func 101) #[] #[], .func (.func 102) #[] #[], .func (.func 103) #[] #[]], .agg #[.int .i64 c.k, .int .i64 c.n, .string c.s]] w (BytesX w 1 [c.n]) := by
  have HV := fun W => value_B c W
  have hu : In.u c.n = c.n := by unfold In.u; omega
  rw [hu] at HV
  have HP := Lib.hid (fun W => putOne_B c.n h0 h1 W)
  have HV := Lib.hid HV
  go_enter Tryz.func241, Tryz.ntmps241
  go_wp2
  go_region_held3 (fun w' => w'.cell? ⟨w.heap.size, 2, none⟩ = some (.func (.func 100) #[] #[]) ∧ w'.cell? ⟨w.heap.size, 0, none⟩ = some (.func (.func 98) #[] #[]) ∧ w'.cell? ⟨w.heap.size + 1, 0, none⟩ = some (.int .i64 c.k) ∧ w'.cell? ⟨w.heap.size + 1, 1, none⟩ = some (.int .i64 c.n) ∧ w'.cell? ⟨w.heap.size + 1, 2, none⟩ = some (.string c.s)) (go_keep)
    (first
      | (go_at_call 98
         (with_reducible refine (HV.out _).mono ?_)
         rintro e wv ⟨rfl, hg⟩
         have T1 := Lib.hid (((Turn.alloc w _ nowhere).trans (Turn.alloc _ _ nowhere) (fun _ _ h => h)).trans ((Turn.drew _ nowhere).trans (Pk.turn_of hg) (fun _ _ h => h)) (fun _ _ h => h))
         have q0 := (Pk.turn_of hg).cell (p := ⟨w.heap.size, 2, none⟩) (v := .func (.func 100) #[] #[]) (by simp [go_sem]) id
         have q1 := (Pk.turn_of hg).cell (p := ⟨w.heap.size, 0, none⟩) (v := .func (.func 98) #[] #[]) (by simp [go_sem]) id
         have q2 := (Pk.turn_of hg).cell (p := ⟨w.heap.size + 1, 0, none⟩) (v := .int .i64 c.k) (by simp [go_sem]) id
         have q3 := (Pk.turn_of hg).cell (p := ⟨w.heap.size + 1, 1, none⟩) (v := .int .i64 c.n) (by simp [go_sem]) id
         have q4 := (Pk.turn_of hg).cell (p := ⟨w.heap.size + 1, 2, none⟩) (v := .string c.s) (by simp [go_sem]) id
         clear hg)
      | (go_at_call 100
         (with_reducible refine (HP.out _).mono ?_)
         rintro e w2 ⟨a, k, rfl, hs, ht⟩
         have T2 := Lib.hid (T1.out.trans ht (fun _ _ h => h))
         have S2 := Lib.hid hs
         have p0 := ht.cell q0 id
         have p1 := ht.cell q1 id
         have p2 := ht.cell q2 id
         have p3 := ht.cell q3 id
         have p4 := ht.cell q4 id
         clear hs ht)
      | fail)
  go_wp2
  go_ret
  exact ⟨a, k, rfl, S2.out, T2.out⟩

set_option maxRecDepth 100000 in
set_option maxHeartbeats 2000000 in
theorem putCell_T (b : Nat) (c : Cel) (hl : c.s.size ≤ 65536) (m : Nat) (hm : (Tx.strB (nm c.s)).length = m) (w : World) : Calls Tryz.prog 245 #[.agg #[.func (.func 105) #[] #[], .func (.func 106) #[] #[], .func (.func 107) #[] #[], .func (.func 108) #[] #[], .func (.func 109) #[] #[], .func (.func 146) #[] #[.pointer (some ⟨b, 0, none⟩)]], .agg #[.int .i64 c.k, .int .i64 c.n, .string c.s]] w (BytesX w m (Tx.strB (nm c.s))) := by
  have HV := fun W => value_T c W

  have HP := Lib.hid (fun W => (by have h := putOne_T (nm c.s) m (nm_isB _) (by rw [nm_len]; exact hl) hm W; rw [str_nm] at h; exact h : Calls Tryz.prog 107 #[.string c.s] W (BytesX W m (Tx.strB (nm c.s)))))
  have HV := Lib.hid HV
  go_enter Tryz.func245, Tryz.ntmps245
  go_wp2
  go_region_held3 (fun w' => w'.cell? ⟨w.heap.size, 2, none⟩ = some (.func (.func 107) #[] #[]) ∧ w'.cell? ⟨w.heap.size, 0, none⟩ = some (.func (.func 105) #[] #[]) ∧ w'.cell? ⟨w.heap.size + 1, 0, none⟩ = some (.int .i64 c.k) ∧ w'.cell? ⟨w.heap.size + 1, 1, none⟩ = some (.int .i64 c.n) ∧ w'.cell? ⟨w.heap.size + 1, 2, none⟩ = some (.string c.s)) (go_keep)
    (first
      | (go_at_call 105
         (with_reducible refine (HV.out _).mono ?_)
         rintro e wv ⟨rfl, hg⟩
         have T1 := Lib.hid (((Turn.alloc w _ nowhere).trans (Turn.alloc _ _ nowhere) (fun _ _ h => h)).trans ((Turn.drew _ nowhere).trans (Pk.turn_of hg) (fun _ _ h => h)) (fun _ _ h => h))
         have q0 := (Pk.turn_of hg).cell (p := ⟨w.heap.size, 2, none⟩) (v := .func (.func 107) #[] #[]) (by simp [go_sem]) id
         have q1 := (Pk.turn_of hg).cell (p := ⟨w.heap.size, 0, none⟩) (v := .func (.func 105) #[] #[]) (by simp [go_sem]) id
         have q2 := (Pk.turn_of hg).cell (p := ⟨w.heap.size + 1, 0, none⟩) (v := .int .i64 c.k) (by simp [go_sem]) id
         have q3 := (Pk.turn_of hg).cell (p := ⟨w.heap.size + 1, 1, none⟩) (v := .int .i64 c.n) (by simp [go_sem]) id
         have q4 := (Pk.turn_of hg).cell (p := ⟨w.heap.size + 1, 2, none⟩) (v := .string c.s) (by simp [go_sem]) id
         clear hg)
      | (go_at_call 107
         (with_reducible refine (HP.out _).mono ?_)
         rintro e w2 ⟨a, k, rfl, hs, ht⟩
         have T2 := Lib.hid (T1.out.trans ht (fun _ _ h => h))
         have S2 := Lib.hid hs
         have p0 := ht.cell q0 id
         have p1 := ht.cell q1 id
         have p2 := ht.cell q2 id
         have p3 := ht.cell q3 id
         have p4 := ht.cell q4 id
         clear hs ht)
      | fail)
  go_wp2
  go_ret
  exact ⟨a, k, rfl, S2.out, T2.out⟩
end Go.Proofs.YtljanfnhmhimiaaGreat.Sg

namespace Go.Proofs.YtljanfnhmhimiaaGreat.Sg
open Go.RowKit Go.Joins Zn Zr Dv

/-- what a head holds -/
structure Hd where
  kind : Int
  a : Option Addr
  n : Nat
  c : Nat
  z : Zon
abbrev Hd.cells (h : Hd) : Array Value := #[.int .i64 h.kind, .slice h.a h.n h.c, .int .i64 h.z.cnt, .int .i64 h.z.nul, .int .i64 h.z.min.k, .int .i64 h.z.min.n, .string h.z.min.s, .int .i64 h.z.max.k, .int .i64 h.z.max.n, .string h.z.max.s]
def HB (w : World) (g : Nat) (h : Hd) : Prop := w.heap[g]? = some (.cells #[.int .i64 h.kind, .slice h.a h.n h.c, .int .i64 h.z.cnt, .int .i64 h.z.nul, .int .i64 h.z.min.k, .int .i64 h.z.min.n, .string h.z.min.s, .int .i64 h.z.max.k, .int .i64 h.z.max.n, .string h.z.max.s] 69 (0, 0))
theorem HB.old {w w' : World} {g : Nat} {h : Hd} (k : HB w g h) (t : Turn w w' nowhere) : HB w' g h := block_old k t.grown
theorem HB.turn {w w' : World} {g b : Nat} {h : Hd} (k : HB w g h) (t : Turn w w' (· = b)) (hne : g ≠ b) : HB w' g h := block_turn k t hne
theorem HB.froz {w : World} {g : Nat} {h : Hd} (k : HB w g h) (j : Nat) : w.frozen? ⟨g, j, none⟩ = false := by
  unfold HB at k
  simp [World.frozen?, k]
end Go.Proofs.YtljanfnhmhimiaaGreat.Sg

namespace Go.Proofs.YtljanfnhmhimiaaGreat.Sg
open Go.RowKit Go.Joins Bs Dv Zn Zr

set_option maxRecDepth 100000 in
/-- a coder is not nil -/
theorem nil_no {w : World} {kind : Int} {v : Value} (h : CodV w kind v) : ∀ W, (binOp .eql 63 v .nilIface).run Tryz.prog W = .ok (.bool false) W := by
  rcases h with ⟨_, b, rfl, _⟩ | ⟨_, rfl⟩ | ⟨_, b, rfl, _⟩
  · exact fun W => by kernel_rfl
  · exact fun W => by kernel_rfl
  · exact fun W => by kernel_rfl
theorem nil_guard {w : World} {kind : Int} {v : Value} (h : CodV w kind v) : ∀ (x y : Operand) (W : World), (eqGuard .eql 63 x y v .nilIface).run Tryz.prog W = .ok () W := by
  rcases h with ⟨_, b, rfl, _⟩ | ⟨_, rfl⟩ | ⟨_, b, rfl, _⟩
  · exact fun x y W => rfl
  · exact fun x y W => rfl
  · exact fun x y W => rfl
theorem nil_yes : ∀ W, (binOp .eql 63 .nilIface .nilIface).run Tryz.prog W = .ok (.bool true) W := fun W => by kernel_rfl

set_option maxRecDepth 100000 in
set_option maxHeartbeats 4000000 in
theorem Check_any (kind : Int) (a : Option Addr) (n c : Nat) (l : List Cel) (w : World) (hs : CSeg w a n c l) :
    Calls Tryz.prog 19 #[.int .i64 kind, .slice a n c] w fun e w' => e = .returned (.int .i64 (checkS kind l)) ∧ w.grownBy w' none := by
  have HS := Lib.hid hs
  have HL := Lib.hid hs.len
  have hcap := hs.le
  have hcap2 := hs.cap
  unfold maxLen at hcap2
  obtain ⟨E, hE⟩ : ∃ E, E = checkS kind l := ⟨_, rfl⟩
  rw [← hE]
  unfold checkS at hE
  rw [HL.out] at hE
  clear hs
  by_cases k1 : kind < 1 ∨ 3 < kind
  · rw [if_pos k1] at hE
    subst hE
    have HC := Lib.hid (fun W => coderOf_no kind W k1)
    have hny := nil_yes
    clear k1
    go_enter Tryz.func19, Tryz.ntmps19
    go_wp2_with fail
    refine (HC.out _).mono ?_
    rintro e w1 ⟨rfl, rfl⟩
    go_wp2
    go_ret
    exact ⟨rfl, grown_refl _⟩
  rw [if_neg k1] at hE
  have HC := Lib.hid (fun W => coderOf_any kind W (by omega) (by omega))
  by_cases hm : 4096 < n
  · rw [if_pos hm] at hE
    subst hE
    have hm' : (4096 : Int) < (n : Int) := by omega
    clear k1
    go_enter Tryz.func19, Tryz.ntmps19
    go_wp2_with fail
    refine (HC.out _).mono ?_
    rintro e w1 ⟨v, rfl, hv, ht⟩
    have hnn := nil_no hv
    have hng := nil_guard hv
    have HG := Lib.hid ht.grown
    clear hv ht
    dsimp only
    go_wp2
    go_ret
    exact ⟨rfl, HG.out⟩
  rw [if_neg hm] at hE
  have HE := Lib.hid hE
  have hm' : ¬ (4096 : Int) < (n : Int) := by omega
  clear hE k1
  go_enter Tryz.func19, Tryz.ntmps19
  go_wp2_with fail
  refine (HC.out _).mono ?_
  rintro e w1 ⟨v, rfl, hv, ht⟩
  have hnn := nil_no hv
  have hng := nil_guard hv
  have HG1 := Lib.hid ht.grown
  clear hv ht
  dsimp only
  go_wp2
  clear hnn hng
  go_loopw [16] (fun iv wx => ∃ k : Nat, iv = .int .i64 k ∧ k ≤ n ∧ E = firstE kind (l.drop k) ∧ w.grownBy wx none) (fun iv _ => n - (intOf iv).toNat)
  case atStart => exact ⟨0, rfl, Nat.zero_le _, HE.out, HG1.out⟩
  case round =>
    obtain ⟨k, rfl, hk, he, hg⟩ := hrel
    have HG := Lib.hid hg
    have HK := Lib.hid he
    clear hg he HE HG1
    by_cases hlt : k < n
    · obtain ⟨B, O, rfl, hcs⟩ := (HS.out.old HG.out).form (by omega)
      obtain ⟨c0, c1, c2⟩ := hcs k hlt
      clear hcs
      have HD := Lib.hid (HK.out.trans (first_drop (by rw [HL.out]; exact hlt)))
      obtain ⟨x, hx⟩ : ∃ x, x = l.getD k zeroC := ⟨_, rfl⟩
      rw [← hx] at c0 c1 c2 HD
      have HX := Lib.hid (fun W => Cell_any x W)
      obtain ⟨r, hr⟩ : ∃ r, r = cellE x := ⟨_, rfl⟩
      rw [← hr] at HX HD
      have HXE := Lib.hid hx
      clear hx hr HK
      go_wp2_with fail
      refine (HX.out _).mono ?_
      rintro e wk ⟨rfl, hg⟩
      have BX := Lib.hid ((CB.new wr x).old hg)
      have HG := Lib.hid (grown_then (grown_then HG.out (grown_alloc _ _)) hg)
      clear hg c0 c1 c2
      obtain ⟨c0, c1, c2⟩ := BX.out.cells
      dsimp only
      by_cases h0 : r = 0
      · have q0 : (r != 0) = false := by rw [h0]; rfl
        have HD2 := Lib.hid (HD.out.trans (if_neg (by rw [h0]; simp)))
        clear HD h0
        by_cases h2 : x.k = 0
        · have q2 : (x.k != 0) = false := by rw [h2]; rfl
          have HF := Lib.hid (HD2.out.trans (if_neg (fun e => e.2 h2)))
          clear HD2 h2
          go_wp2
          go_roundw
          case rel => exact ⟨k + 1, by go_num, by omega, HF.out, HG.out⟩
          case measure => simp [intOf]; omega
        · have q2 : (x.k != 0) = true := bne_iff_ne.2 h2
          by_cases h1 : x.k = kind
          · have q1 : (x.k != kind) = false := by rw [h1]; exact bne_self_eq_false _
            have HF := Lib.hid (HD2.out.trans (if_neg (fun e => e.1 h1)))
            clear HD2 h1 h2
            go_wp2
            go_roundw
            case rel => exact ⟨k + 1, by go_num, by omega, HF.out, HG.out⟩
            case measure => simp [intOf]; omega
          · have q1 : (x.k != kind) = true := bne_iff_ne.2 h1
            have HF := Lib.hid (HD2.out.trans (if_pos ⟨h1, h2⟩))
            clear HD2 h1 h2
            go_wp2
            go_ret
            exact ⟨ret_int HF.out.symm, HG.out⟩
      · have q0 : (r != 0) = true := bne_iff_ne.2 h0
        have HD2 := Lib.hid (HD.out.trans (if_pos h0))
        clear HD h0
        go_wp2
        go_ret
        exact ⟨ret_int HD2.out.symm, HG.out⟩
    · obtain rfl : k = n := by omega
      have HF : Hid (E = 0) := Lib.hid (by rw [HK.out, List.drop_of_length_le (by rw [HL.out]; exact Nat.le_refl _)]; rfl)
      clear hlt HK
      go_wp2
      go_ret
      exact ⟨ret_int HF.out.symm, HG.out⟩
end Go.Proofs.YtljanfnhmhimiaaGreat.Sg

namespace Go.Proofs.YtljanfnhmhimiaaGreat.Sg
open Go.RowKit Go.Joins Zn Zr Dv
open Oct (Rd)

open Nu (cnt)

theorem HB.setMin {w : World} {g : Nat} {h : Hd} (k : HB w g h) (c : Cel) : HB (((w.setCell ⟨g, 4, none⟩ (.int .i64 c.k)).setCell ⟨g, 5, none⟩ (.int .i64 c.n)).setCell ⟨g, 6, none⟩ (.string c.s)) g ⟨h.kind, h.a, h.n, h.c, ⟨h.z.cnt, h.z.nul, c, h.z.max⟩⟩ :=
  Go.heap_setCell_same _ g 6 _ _ (.string c.s) (Go.heap_setCell_same _ g 5 _ _ (.int .i64 c.n) (Go.heap_setCell_same w g 4 _ _ (.int .i64 c.k) k))
theorem HB.setMax {w : World} {g : Nat} {h : Hd} (k : HB w g h) (c : Cel) : HB (((w.setCell ⟨g, 7, none⟩ (.int .i64 c.k)).setCell ⟨g, 8, none⟩ (.int .i64 c.n)).setCell ⟨g, 9, none⟩ (.string c.s)) g ⟨h.kind, h.a, h.n, h.c, ⟨h.z.cnt, h.z.nul, h.z.min, c⟩⟩ :=
  Go.heap_setCell_same _ g 9 _ _ (.string c.s) (Go.heap_setCell_same _ g 8 _ _ (.int .i64 c.n) (Go.heap_setCell_same w g 7 _ _ (.int .i64 c.k) k))
end Go.Proofs.YtljanfnhmhimiaaGreat.Sg

namespace Go.Proofs.YtljanfnhmhimiaaGreat.Sg
open Go.RowKit Go.Joins Zn Zr Dv
open Is (IsI)

theorem row_not {w : World} {base e s n : Nat} {v : Value} {xs : List Value} (h : w.ownsRow base e s v n xs) {g : Nat} {cs : Array Value} {t : Nat} {fr : Nat × Nat} (hg : w.heap[g]? = some (.cells cs t fr)) (hne : t ≠ e) : v.ownBlock ≠ some g := by
  intro e1
  rcases h.2 with ⟨rfl, _⟩ | ⟨g1, cap1, cur1, rfl, _, hg1, _⟩
  · cases e1
  · obtain rfl : g1 = g := Option.some.inj e1
    rw [hg1] at hg
    injection hg with hg
    injection hg with _ h3 _
    exact hne h3.symm

set_option maxHeartbeats 1000000 in
theorem putAll_B {l : List Int} {E : Int} {B : List Int} {m : Nat} (hR : Pk.putR l 1 = (E, B)) (hm : B.length = m) (hu : Pk.IsU l) (a : Option Addr) (n c : Nat) (w : World) (hs : Us.Seg w a n c l) :
    Calls Tryz.prog 102 #[.slice a n c] w (Pk.PutF w m E B) := by
  have HP := Lib.hid (Pk.put_form hR hm hu a n c w hs)
  clear hR hm hu hs
  go_enter Tryz.func102, Tryz.ntmps102
  go_wp2_with fail
  refine HP.out.mono ?_
  rintro e w1 ⟨a1, k1, rfl, hs1, ht1⟩
  have HF : Hid (Pk.PutF w m E B (.returned (.tuple #[.slice a1 m k1, .int .i64 E])) w1) := Lib.hid ⟨_, _, rfl, hs1, ht1⟩
  clear hs1 ht1
  go_wp2
  go_ret2
  exact HF.out

theorem make_I (S : Nat) (hS : S ≤ 1000000) (W : World) : (Instr.makeSlice 131 (.int .i64 0) (.int .i64 (S : Int))).run Tryz.prog W = .ok (.slice (some ⟨W.heap.size, 0, none⟩) 0 S) (W.alloc (.cells (madeCells (Value.cells (.int .i64 0)) S) 2)) := by
  obtain ⟨i0, hi, hz0, hz1, hz2⟩ := info_parts Is.info_i64
  have h := run_make (P := Tryz.prog) W 131 2 i0 (.int .i64 0) Tryz.underlying131 hi hz0 .i64 .i64 0 (S : Int) (by omega) (by omega) (by rw [hz2]; omega) (by omega)
  rw [hz1, Int.toNat_natCast, Nat.mul_one] at h
  exact h

set_option maxRecDepth 100000 in
set_option maxHeartbeats 4000000 in
theorem putCells_I (b : Nat) (a : Option Addr) (n c m : Nat) (l : List Cel) (w : World) (hs : CSeg w a n c l) (hn : n ≤ 4096) (hi : IntOk l) (hm : (In.bestB (l.map (·.n))).length = m) :
    Calls Tryz.prog 238 #[.agg #[.func (.func 89) #[] #[], .func (.func 90) #[] #[], .func (.func 91) #[] #[], .func (.func 93) #[] #[], .func (.func 95) #[] #[], .func (.func 140) #[] #[.pointer (some ⟨b, 0, none⟩)]], .slice a n c] w (BytesX w m (In.bestB (l.map (·.n)))) := by
  obtain ⟨i0, ii, iz0, iz1, iz2⟩ := info_parts Is.info_i64
  have HS := Lib.hid hs
  have HL := Lib.hid hs.len
  have HV := Lib.hid (fun c W => value_I c W)
  have hmk := make_I n (by omega)
  have hcod := heap_alloc_new w (.cells #[.func (.func 89) #[] #[], .func (.func 90) #[] #[], .func (.func 91) #[] #[], .func (.func 93) #[] #[], .func (.func 95) #[] #[], .func (.func 140) #[] #[.pointer (some ⟨b, 0, none⟩)]] 99)
  have hmade := World.ownsRow_made (base := w.heap.size) (e := 2) (size := 1) (w.alloc (.cells #[.func (.func 89) #[] #[], .func (.func 90) #[] #[], .func (.func 91) #[] #[], .func (.func 93) #[] #[], .func (.func 95) #[] #[], .func (.func 140) #[] #[.pointer (some ⟨b, 0, none⟩)]] 99)) (madeCells (Value.cells (.int .i64 0)) n) n (by simp) (by unfold maxLen; omega) (by rw [size_madeCells]; omega)
  have hcod2 := (Below.heap_alloc (w.alloc (.cells #[.func (.func 89) #[] #[], .func (.func 90) #[] #[], .func (.func 91) #[] #[], .func (.func 93) #[] #[], .func (.func 95) #[] #[], .func (.func 140) #[] #[.pointer (some ⟨b, 0, none⟩)]] 99)) (.cells (madeCells (Value.cells (.int .i64 0)) n) 2) w.heap.size (by simp)).trans hcod
  have HC0 := Lib.hid hcod2
  have HM0 := Lib.hid hmade
  clear hs hcod hmade hcod2
  go_enter Tryz.func238, Tryz.ntmps238
  go_wp2
  go_loopw [5, 15] (fun vv iv wx => ∃ (k gv cv : Nat), iv = .int .i64 k ∧ k ≤ n ∧ vv = .slice (some ⟨gv, 0, none⟩) k cv ∧ wx.ownsRow w.heap.size 2 1 (.slice (some ⟨gv, 0, none⟩) k cv) k ((l.take k).map intV) ∧ wx.heap[w.heap.size]? = some (.cells #[.func (.func 89) #[] #[], .func (.func 90) #[] #[], .func (.func 91) #[] #[], .func (.func 93) #[] #[], .func (.func 95) #[] #[], .func (.func 140) #[] #[.pointer (some ⟨b, 0, none⟩)]] 99 (0, 0)) ∧ w.grownBy wx none) (fun _ iv _ => n - (intOf iv).toNat)
  case atStart => exact ⟨0, _, _, rfl, Nat.zero_le _, rfl, (by have h := HM0.out; rw [World.size_alloc] at h; exact h), HC0.out, grown_then (grown_alloc _ _) (grown_alloc _ _)⟩
  case round =>
    obtain ⟨k, gv, cv, rfl, hk, rfl, r1, hcd, hg⟩ := hrel
    have HG := Lib.hid hg
    have R1 := Lib.hid r1
    have HC := Lib.hid hcd
    have hgs := hg.size
    clear r1 hcd hg HM0 HC0 hmk
    by_cases hlt : k < n
    · obtain ⟨B, O, rfl, hcs⟩ := (HS.out.old HG.out).form (by omega)
      obtain ⟨x, hx⟩ : ∃ x, x = l.getD k zeroC := ⟨_, rfl⟩
      have HXE := Lib.hid hx
      have M1 := Lib.hid (map_snoc (f := intV) (l := l) (k := k) (by rw [HL.out]; exact hlt))
      rw [← hx] at M1
      have f0 : wr.cell? ⟨w.heap.size, 0, none⟩ = some (.func (.func 89) #[] #[]) := by rw [cell_of_row _ _ _ _ _ _ HC.out]; rfl
      have hwlt : w.heap.size < wr.heap.size := heap_lt HC.out
      have hlt2 : (k : Int) < (n : Int) := by omega
      clear hcs hx
      obtain ⟨c0, c1, c2⟩ := cells_at (HS.out.old HG.out) hlt HXE.out
      go_wp2_with fail
      refine (HV.out x _).mono ?_
      rintro e wv ⟨rfl, hgv⟩
      have GV := Lib.hid (grown_then (grown_alloc wr _) hgv)
      have HGV := Lib.hid (grown_then HG.out GV.out)
      have RV := Lib.hid (own_grow R1.out GV.out)
      have CV := Lib.hid (block_old HC.out GV.out)
      have hvs := HGV.out.size
      clear hgv GV HG R1 HC c0 c1 c2 f0
      dsimp only
      go_wp2_with (at_builtin; refine wpList_append_own _ rfl _ _ 131 rfl w.heap.size 2 i0 (.int .i64 0) 1 8 Tryz.underlying131 ii iz0 iz1 iz2 rfl (by decide) _ k _ rfl (RV.out.alloc _) ⟨wv.heap.size, 0, none⟩ 1 1 [.int .i64 x.n] rfl rfl (by intro y u hy; match y, hy with | 0, hy => simp at hy; subst hy; simp [Addr.add]) (by intro u hu; simp at hu; subst hu; rfl) (by unfold maxLen; omega) (by omega) (by simp; omega) ?_; intro V4 w4 hown4 hg4 hnil4)
      obtain ⟨g4, c4, rfl⟩ := Nu.ownsRow_form hown4 (by omega)
      have HG4 := Lib.hid (Bs.grownBy_trans (grown_then HGV.out (grown_alloc _ _)) hg4 (fun i e => (RV.out.lt i e).1))
      have R14 : Hid (w4.ownsRow w.heap.size 2 1 (.slice (some ⟨g4, 0, none⟩) (k + 1) c4) (k + 1) ((l.take (k + 1)).map intV)) := Lib.hid (by rw [M1.out]; exact hown4)
      have C4 : Hid (w4.heap[w.heap.size]? = some (.cells #[.func (.func 89) #[] #[], .func (.func 90) #[] #[], .func (.func 91) #[] #[], .func (.func 93) #[] #[], .func (.func 95) #[] #[], .func (.func 140) #[] #[.pointer (some ⟨b, 0, none⟩)]] 99 (0, 0))) := Lib.hid (by
        rw [hg4.block _ (by have := heap_lt CV.out; simp; omega) (fun e => ?_), Below.heap_alloc _ _ _ (heap_lt CV.out)]
        · exact CV.out
        · exact row_not RV.out CV.out (by decide) e.symm)
      clear hown4 hg4 hnil4 RV CV M1 HGV
      go_wp2
      go_roundw
      case rel => exact ⟨k + 1, _, _, by go_num, by omega, by go_num, R14.out, C4.out, HG4.out⟩
      case measure => simp [intOf]; omega
    · obtain rfl : k = n := by omega
      have hT : l.take k = l := List.take_of_length_le (by rw [HL.out]; exact Nat.le_refl _)
      rw [hT, int_row] at R1
      have f4 : wr.cell? ⟨w.heap.size, 4, none⟩ = some (.func (.func 95) #[] #[]) := by rw [cell_of_row _ _ _ _ _ _ HC.out]; rfl
      have HI : Hid (IsI (l.map (·.n))) := Lib.hid (fun y hy => by
        obtain ⟨z, hz, rfl⟩ := List.mem_map.1 hy
        exact hi z hz)
      have hR : In.tooMany (l.map (·.n)) (In.bestB (l.map (·.n))) = (0, In.bestB (l.map (·.n))) := In.few_of (by rw [List.length_map, HL.out]; exact hn)
      have hc := In.put_form hR hm HI.out (some ⟨gv, 0, none⟩) k cv wr (Is.Seg.own R1.out)
      clear hR
      have HP := Lib.hid hc
      clear hc hT hlt R1 HC
      go_wp2_with fail
      refine HP.out.mono ?_
      rintro e w9 ⟨a9, k9, rfl, hs9, ht9⟩
      have HF : Hid (BytesX w m (In.bestB (l.map (·.n))) (.returned (.slice a9 m k9)) w9) := Lib.hid ⟨a9, k9, rfl, hs9, (Pk.turn_of HG.out).trans ht9 (fun _ _ h => h)⟩
      clear hs9 ht9 HP
      dsimp only
      go_wp2
      go_ret
      exact HF.out

theorem make_B (S : Nat) (hS : S ≤ 1000000) (W : World) : (Instr.makeSlice 88 (.int .i64 0) (.int .i64 (S : Int))).run Tryz.prog W = .ok (.slice (some ⟨W.heap.size, 0, none⟩) 0 S) (W.alloc (.cells (madeCells (Value.cells (.int .u64 0)) S) 85)) := by
  obtain ⟨i0, hi, hz0, hz1, hz2⟩ := info_parts Us.info_u64
  have h := run_make (P := Tryz.prog) W 88 85 i0 (.int .u64 0) Tryz.underlying88 hi hz0 .i64 .i64 0 (S : Int) (by omega) (by omega) (by rw [hz2]; omega) (by omega)
  rw [hz1, Int.toNat_natCast, Nat.mul_one] at h
  exact h

set_option maxRecDepth 100000 in
set_option maxHeartbeats 4000000 in
theorem putCells_B (a : Option Addr) (n c m : Nat) (l : List Cel) (w : World) (hs : CSeg w a n c l) (hn : n ≤ 4096) (h2 : ∀ x ∈ l, 0 ≤ x.n ∧ x.n < 2) (hm : ((Pk.putR (l.map (·.n)) 1).2).length = m) :
    Calls Tryz.prog 242 #[.agg #[.func (.func 98) #[] #[], .func (.func 99) #[] #[], .func (.func 100) #[] #[], .func (.func 101) #[] #[], .func (.func 102) #[] #[], .func (.func 103) #[] #[]], .slice a n c] w (BytesX w m ((Pk.putR (l.map (·.n)) 1).2)) := by
  obtain ⟨i0, ii, iz0, iz1, iz2⟩ := info_parts Us.info_u64
  have HS := Lib.hid hs
  have HL := Lib.hid hs.len
  have HV := Lib.hid (fun c W => value_B c W)
  have hmk := make_B n (by omega)
  have hcod := heap_alloc_new w (.cells #[.func (.func 98) #[] #[], .func (.func 99) #[] #[], .func (.func 100) #[] #[], .func (.func 101) #[] #[], .func (.func 102) #[] #[], .func (.func 103) #[] #[]] 108)
  have hmade := World.ownsRow_made (base := w.heap.size) (e := 85) (size := 1) (w.alloc (.cells #[.func (.func 98) #[] #[], .func (.func 99) #[] #[], .func (.func 100) #[] #[], .func (.func 101) #[] #[], .func (.func 102) #[] #[], .func (.func 103) #[] #[]] 108)) (madeCells (Value.cells (.int .u64 0)) n) n (by simp) (by unfold maxLen; omega) (by rw [size_madeCells]; omega)
  have hcod2 := (Below.heap_alloc (w.alloc (.cells #[.func (.func 98) #[] #[], .func (.func 99) #[] #[], .func (.func 100) #[] #[], .func (.func 101) #[] #[], .func (.func 102) #[] #[], .func (.func 103) #[] #[]] 108)) (.cells (madeCells (Value.cells (.int .u64 0)) n) 85) w.heap.size (by simp)).trans hcod
  have HC0 := Lib.hid hcod2
  have HM0 := Lib.hid hmade
  clear hs hcod hmade hcod2
  go_enter Tryz.func242, Tryz.ntmps242
  go_wp2
  go_loopw [5, 15] (fun vv iv wx => ∃ (k gv cv : Nat), iv = .int .i64 k ∧ k ≤ n ∧ vv = .slice (some ⟨gv, 0, none⟩) k cv ∧ wx.ownsRow w.heap.size 85 1 (.slice (some ⟨gv, 0, none⟩) k cv) k ((l.take k).map bitV) ∧ wx.heap[w.heap.size]? = some (.cells #[.func (.func 98) #[] #[], .func (.func 99) #[] #[], .func (.func 100) #[] #[], .func (.func 101) #[] #[], .func (.func 102) #[] #[], .func (.func 103) #[] #[]] 108 (0, 0)) ∧ w.grownBy wx none) (fun _ iv _ => n - (intOf iv).toNat)
  case atStart => exact ⟨0, _, _, rfl, Nat.zero_le _, rfl, (by have h := HM0.out; rw [World.size_alloc] at h; exact h), HC0.out, grown_then (grown_alloc _ _) (grown_alloc _ _)⟩
  case round =>
    obtain ⟨k, gv, cv, rfl, hk, rfl, r1, hcd, hg⟩ := hrel
    have HG := Lib.hid hg
    have R1 := Lib.hid r1
    have HC := Lib.hid hcd
    have hgs := hg.size
    clear r1 hcd hg HM0 HC0 hmk
    by_cases hlt : k < n
    · obtain ⟨B, O, rfl, hcs⟩ := (HS.out.old HG.out).form (by omega)
      obtain ⟨x, hx⟩ : ∃ x, x = l.getD k zeroC := ⟨_, rfl⟩
      have HXE := Lib.hid hx
      have M1 := Lib.hid (map_snoc (f := bitV) (l := l) (k := k) (by rw [HL.out]; exact hlt))
      rw [← hx] at M1
      have f0 : wr.cell? ⟨w.heap.size, 0, none⟩ = some (.func (.func 98) #[] #[]) := by rw [cell_of_row _ _ _ _ _ _ HC.out]; rfl
      have hwlt : w.heap.size < wr.heap.size := heap_lt HC.out
      have hlt2 : (k : Int) < (n : Int) := by omega
      clear hcs hx
      obtain ⟨c0, c1, c2⟩ := cells_at (HS.out.old HG.out) hlt HXE.out
      go_wp2_with fail
      refine (HV.out x _).mono ?_
      rintro e wv ⟨rfl, hgv⟩
      have GV := Lib.hid (grown_then (grown_alloc wr _) hgv)
      have HGV := Lib.hid (grown_then HG.out GV.out)
      have RV := Lib.hid (own_grow R1.out GV.out)
      have CV := Lib.hid (block_old HC.out GV.out)
      have hvs := HGV.out.size
      clear hgv GV HG R1 HC c0 c1 c2 f0
      dsimp only
      go_wp2_with (at_builtin; refine wpList_append_own _ rfl _ _ 88 rfl w.heap.size 85 i0 (.int .u64 0) 1 8 Tryz.underlying88 ii iz0 iz1 iz2 rfl (by decide) _ k _ rfl (RV.out.alloc _) ⟨wv.heap.size, 0, none⟩ 1 1 [.int .u64 (In.u x.n)] rfl rfl (by intro y u hy; match y, hy with | 0, hy => simp at hy; subst hy; simp [Addr.add]) (by intro u hu; simp at hu; subst hu; rfl) (by unfold maxLen; omega) (by omega) (by simp; omega) ?_; intro V4 w4 hown4 hg4 hnil4)
      obtain ⟨g4, c4, rfl⟩ := Nu.ownsRow_form hown4 (by omega)
      have HG4 := Lib.hid (Bs.grownBy_trans (grown_then HGV.out (grown_alloc _ _)) hg4 (fun i e => (RV.out.lt i e).1))
      have R14 : Hid (w4.ownsRow w.heap.size 85 1 (.slice (some ⟨g4, 0, none⟩) (k + 1) c4) (k + 1) ((l.take (k + 1)).map bitV)) := Lib.hid (by rw [M1.out]; exact hown4)
      have C4 : Hid (w4.heap[w.heap.size]? = some (.cells #[.func (.func 98) #[] #[], .func (.func 99) #[] #[], .func (.func 100) #[] #[], .func (.func 101) #[] #[], .func (.func 102) #[] #[], .func (.func 103) #[] #[]] 108 (0, 0))) := Lib.hid (by
        rw [hg4.block _ (by have := heap_lt CV.out; simp; omega) (fun e => ?_), Below.heap_alloc _ _ _ (heap_lt CV.out)]
        · exact CV.out
        · exact row_not RV.out CV.out (by decide) e.symm)
      clear hown4 hg4 hnil4 RV CV M1 HGV
      go_wp2
      go_roundw
      case rel => exact ⟨k + 1, _, _, by go_num, by omega, by go_num, R14.out, C4.out, HG4.out⟩
      case measure => simp [intOf]; omega
    · obtain rfl : k = n := by omega
      have hT : l.take k = l := List.take_of_length_le (by rw [HL.out]; exact Nat.le_refl _)
      rw [hT, bit_row] at R1
      have f4 : wr.cell? ⟨w.heap.size, 4, none⟩ = some (.func (.func 102) #[] #[]) := by rw [cell_of_row _ _ _ _ _ _ HC.out]; rfl
      have hM : (l.map fun c => In.u c.n) = l.map (·.n) := List.map_congr_left fun y hy => by
        have := h2 y hy
        unfold In.u
        omega
      rw [hM] at R1
      have hU : Pk.IsU (l.map (·.n)) := fun y hy => by
        obtain ⟨z, hz, rfl⟩ := List.mem_map.1 hy
        have := h2 z hz
        omega
      obtain ⟨E, hE⟩ : ∃ E, E = (Pk.putR (l.map (·.n)) 1).1 := ⟨_, rfl⟩
      have hR : Pk.putR (l.map (·.n)) 1 = (E, (Pk.putR (l.map (·.n)) 1).2) := by rw [hE]
      have hc := putAll_B hR hm hU (some ⟨gv, 0, none⟩) k cv wr (Us.Seg.own R1.out)
      clear hE hR
      have HP := Lib.hid hc
      clear hc hT hlt R1 HC
      go_wp2_with fail
      refine HP.out.mono ?_
      rintro e w9 ⟨a9, k9, rfl, hs9, ht9⟩
      have HF : Hid (BytesX w m ((Pk.putR (l.map (·.n)) 1).2) (.returned (.slice a9 m k9)) w9) := Lib.hid ⟨a9, k9, rfl, hs9, (Pk.turn_of HG.out).trans ht9 (fun _ _ h => h)⟩
      clear hs9 ht9 HP
      dsimp only
      go_wp2
      go_ret
      exact HF.out

theorem make_T (S : Nat) (hS : S ≤ 1000000) (W : World) : (Instr.makeSlice 132 (.int .i64 0) (.int .i64 (S : Int))).run Tryz.prog W = .ok (.slice (some ⟨W.heap.size, 0, none⟩) 0 S) (W.alloc (.cells (madeCells (Value.cells (.string ⟨#[]⟩)) S) 9)) := by
  obtain ⟨i0, hi, hz0, hz1, hz2⟩ := info_parts Ss.info_str
  have h := run_make (P := Tryz.prog) W 132 9 i0 (.string ⟨#[]⟩) Tryz.underlying132 hi hz0 .i64 .i64 0 (S : Int) (by omega) (by omega) (by rw [hz2]; omega) (by omega)
  rw [hz1, Int.toNat_natCast, Nat.mul_one] at h
  exact h

set_option maxRecDepth 100000 in
set_option maxHeartbeats 4000000 in
theorem putCells_T (b : Nat) (a : Option Addr) (n c m : Nat) (l : List Cel) (w : World) (hs : CSeg w a n c l) (hn : n ≤ 4096) (ht : ∀ x ∈ l, x.s.size ≤ 65536) (hm : (Tx.bestT (l.map fun c => nm c.s)).length = m) :
    Calls Tryz.prog 246 #[.agg #[.func (.func 105) #[] #[], .func (.func 106) #[] #[], .func (.func 107) #[] #[], .func (.func 108) #[] #[], .func (.func 109) #[] #[], .func (.func 146) #[] #[.pointer (some ⟨b, 0, none⟩)]], .slice a n c] w (BytesX w m (Tx.bestT (l.map fun c => nm c.s))) := by
  obtain ⟨i0, ii, iz0, iz1, iz2⟩ := info_parts Ss.info_str
  have HS := Lib.hid hs
  have HL := Lib.hid hs.len
  have HV := Lib.hid (fun c W => value_T c W)
  have hmk := make_T n (by omega)
  have hcod := heap_alloc_new w (.cells #[.func (.func 105) #[] #[], .func (.func 106) #[] #[], .func (.func 107) #[] #[], .func (.func 108) #[] #[], .func (.func 109) #[] #[], .func (.func 146) #[] #[.pointer (some ⟨b, 0, none⟩)]] 117)
  have hmade := World.ownsRow_made (base := w.heap.size) (e := 9) (size := 1) (w.alloc (.cells #[.func (.func 105) #[] #[], .func (.func 106) #[] #[], .func (.func 107) #[] #[], .func (.func 108) #[] #[], .func (.func 109) #[] #[], .func (.func 146) #[] #[.pointer (some ⟨b, 0, none⟩)]] 117)) (madeCells (Value.cells (.string ⟨#[]⟩)) n) n (by simp) (by unfold maxLen; omega) (by rw [size_madeCells]; omega)
  have hcod2 := (Below.heap_alloc (w.alloc (.cells #[.func (.func 105) #[] #[], .func (.func 106) #[] #[], .func (.func 107) #[] #[], .func (.func 108) #[] #[], .func (.func 109) #[] #[], .func (.func 146) #[] #[.pointer (some ⟨b, 0, none⟩)]] 117)) (.cells (madeCells (Value.cells (.string ⟨#[]⟩)) n) 9) w.heap.size (by simp)).trans hcod
  have HC0 := Lib.hid hcod2
  have HM0 := Lib.hid hmade
  clear hs hcod hmade hcod2
  go_enter Tryz.func246, Tryz.ntmps246
  go_wp2
  go_loopw [5, 15] (fun vv iv wx => ∃ (k gv cv : Nat), iv = .int .i64 k ∧ k ≤ n ∧ vv = .slice (some ⟨gv, 0, none⟩) k cv ∧ wx.ownsRow w.heap.size 9 1 (.slice (some ⟨gv, 0, none⟩) k cv) k ((l.take k).map strV) ∧ wx.heap[w.heap.size]? = some (.cells #[.func (.func 105) #[] #[], .func (.func 106) #[] #[], .func (.func 107) #[] #[], .func (.func 108) #[] #[], .func (.func 109) #[] #[], .func (.func 146) #[] #[.pointer (some ⟨b, 0, none⟩)]] 117 (0, 0)) ∧ w.grownBy wx none) (fun _ iv _ => n - (intOf iv).toNat)
  case atStart => exact ⟨0, _, _, rfl, Nat.zero_le _, rfl, (by have h := HM0.out; rw [World.size_alloc] at h; exact h), HC0.out, grown_then (grown_alloc _ _) (grown_alloc _ _)⟩
  case round =>
    obtain ⟨k, gv, cv, rfl, hk, rfl, r1, hcd, hg⟩ := hrel
    have HG := Lib.hid hg
    have R1 := Lib.hid r1
    have HC := Lib.hid hcd
    have hgs := hg.size
    clear r1 hcd hg HM0 HC0 hmk
    by_cases hlt : k < n
    · obtain ⟨B, O, rfl, hcs⟩ := (HS.out.old HG.out).form (by omega)
      obtain ⟨x, hx⟩ : ∃ x, x = l.getD k zeroC := ⟨_, rfl⟩
      have HXE := Lib.hid hx
      have M1 := Lib.hid (map_snoc (f := strV) (l := l) (k := k) (by rw [HL.out]; exact hlt))
      rw [← hx] at M1
      have f0 : wr.cell? ⟨w.heap.size, 0, none⟩ = some (.func (.func 105) #[] #[]) := by rw [cell_of_row _ _ _ _ _ _ HC.out]; rfl
      have hwlt : w.heap.size < wr.heap.size := heap_lt HC.out
      have hlt2 : (k : Int) < (n : Int) := by omega
      clear hcs hx
      obtain ⟨c0, c1, c2⟩ := cells_at (HS.out.old HG.out) hlt HXE.out
      go_wp2_with fail
      refine (HV.out x _).mono ?_
      rintro e wv ⟨rfl, hgv⟩
      have GV := Lib.hid (grown_then (grown_alloc wr _) hgv)
      have HGV := Lib.hid (grown_then HG.out GV.out)
      have RV := Lib.hid (own_grow R1.out GV.out)
      have CV := Lib.hid (block_old HC.out GV.out)
      have hvs := HGV.out.size
      clear hgv GV HG R1 HC c0 c1 c2 f0
      dsimp only
      go_wp2_with (at_builtin; refine wpList_append_own _ rfl _ _ 132 rfl w.heap.size 9 i0 (.string ⟨#[]⟩) 1 16 Tryz.underlying132 ii iz0 iz1 iz2 rfl (by decide) _ k _ rfl (RV.out.alloc _) ⟨wv.heap.size, 0, none⟩ 1 1 [.string x.s] rfl rfl (by intro y u hy; match y, hy with | 0, hy => simp at hy; subst hy; simp [Addr.add]) (by intro u hu; simp at hu; subst hu; rfl) (by unfold maxLen; omega) (by omega) (by simp; omega) ?_; intro V4 w4 hown4 hg4 hnil4)
      obtain ⟨g4, c4, rfl⟩ := Nu.ownsRow_form hown4 (by omega)
      have HG4 := Lib.hid (Bs.grownBy_trans (grown_then HGV.out (grown_alloc _ _)) hg4 (fun i e => (RV.out.lt i e).1))
      have R14 : Hid (w4.ownsRow w.heap.size 9 1 (.slice (some ⟨g4, 0, none⟩) (k + 1) c4) (k + 1) ((l.take (k + 1)).map strV)) := Lib.hid (by rw [M1.out]; exact hown4)
      have C4 : Hid (w4.heap[w.heap.size]? = some (.cells #[.func (.func 105) #[] #[], .func (.func 106) #[] #[], .func (.func 107) #[] #[], .func (.func 108) #[] #[], .func (.func 109) #[] #[], .func (.func 146) #[] #[.pointer (some ⟨b, 0, none⟩)]] 117 (0, 0))) := Lib.hid (by
        rw [hg4.block _ (by have := heap_lt CV.out; simp; omega) (fun e => ?_), Below.heap_alloc _ _ _ (heap_lt CV.out)]
        · exact CV.out
        · exact row_not RV.out CV.out (by decide) e.symm)
      clear hown4 hg4 hnil4 RV CV M1 HGV
      go_wp2
      go_roundw
      case rel => exact ⟨k + 1, _, _, by go_num, by omega, by go_num, R14.out, C4.out, HG4.out⟩
      case measure => simp [intOf]; omega
    · obtain rfl : k = n := by omega
      have hT : l.take k = l := List.take_of_length_le (by rw [HL.out]; exact Nat.le_refl _)
      rw [hT, str_row] at R1
      have f4 : wr.cell? ⟨w.heap.size, 4, none⟩ = some (.func (.func 109) #[] #[]) := by rw [cell_of_row _ _ _ _ _ _ HC.out]; rfl
      have hOk : Tx.okB (l.map fun c => nm c.s) = true := (Tx.okB_iff _).2 ⟨by rw [List.length_map, HL.out]; exact hn, fun y hy => by
        obtain ⟨z, hz, rfl⟩ := List.mem_map.1 hy
        rw [nm_len]
        exact ht z hz⟩
      have hA : Tx.AllB (l.map fun c => nm c.s) := fun y hy => by
        obtain ⟨z, hz, rfl⟩ := List.mem_map.1 hy
        exact nm_isB _
      have hR : Tx.formR (Tx.bestT (l.map fun c => nm c.s)) (l.map fun c => nm c.s) = (0, Tx.bestT (l.map fun c => nm c.s)) := by unfold Tx.formR; rw [if_pos hOk]
      have hc := Tx.put_form hR hm hA (some ⟨gv, 0, none⟩) k cv wr (Ss.Seg.own R1.out)
      clear hR
      have HP := Lib.hid hc
      clear hc hT hlt R1 HC
      go_wp2_with fail
      refine HP.out.mono ?_
      rintro e w9 ⟨a9, k9, rfl, hs9, ht9⟩
      have HF : Hid (BytesX w m (Tx.bestT (l.map fun c => nm c.s)) (.returned (.slice a9 m k9)) w9) := Lib.hid ⟨a9, k9, rfl, hs9, (Pk.turn_of HG.out).trans ht9 (fun _ _ h => h)⟩
      clear hs9 ht9 HP
      dsimp only
      go_wp2
      go_ret
      exact HF.out
end Go.Proofs.YtljanfnhmhimiaaGreat.Sg
