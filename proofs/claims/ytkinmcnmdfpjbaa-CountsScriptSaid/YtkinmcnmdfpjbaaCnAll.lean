/-
  The program's counts: Clone, All, Used.
-/
import Derived.Test.YtkinmcnmdfpjbaaCnNew
import Derived.Test.YtkinmcnmdfpjbaaJBase
import Derived.Deep.RegionHeld3
namespace Go.Proofs.Ytkinmcnmdfpjbaa.Cn
open Go.RowKit Bs Dv Gr
open Su (GeoOk geo_iff)

/-- 'append(v, s...)' onto a row of the call's own, s a slice of numbers. -/
theorem wpList_append_h {P : Program} {w : World} {ops : Array Oper} {rest : List Oper} {o : Oper} {a : Act} {Q : Exit → Act → World → Prop} (hgd : o.guard = none) (s x : Operand) (t : TypeId)
    (ho : o.op = .call { callee := .builtin .append, args := #[s, x], argTypes := #[t, t] }) (base : Nat) (e : TypeId) (i : TypeInfo) (ht : P.underlying t = some (.slice e)) (hi : P.info? e = some i) (hz : i.zero = some (.int .u16 0)) (hsize : i.size = 1) (hby : i.bytes = 2)
    (g n0 c0 : Nat) (xs : List Value) (hs : a.eval s = .slice (some ⟨g, 0, none⟩) n0 c0) (hown : w.ownsRow base e 1 (.slice (some ⟨g, 0, none⟩) n0 c0) n0 xs)
    (ad : Addr) (n c : Nat) (l : List Int) (hx : a.eval x = .slice (some ad) n c) (hseg : Hs.Seg w (some ad) n c l) (hbytes : (n0 + n) * 2 ≤ 140737488355328) (hbase : base ≤ w.heap.size)
    (h : ∀ g' c' w', w'.ownsRow base e 1 (.slice (some ⟨g', 0, none⟩) (n0 + n) c') (n0 + n) (xs ++ l.map (Value.int .u16)) → w.grownBy w' (some g) → wpList P ops Q rest (a.put o.dst (.slice (some ⟨g', 0, none⟩) (n0 + n) c')) w') : wpList P ops Q (o :: rest) a w := by
  refine wpList_plain hgd fun K hK => ?_
  refine wp_append_own w s x t ho base e i (.int .u16 0) 1 2 ht hi hz hsize hby rfl (by decide) _ n0 xs hs hown ad n c (l.map (Value.int .u16)) hx (by simp [hseg.len]) (hseg.at_ ad rfl) (ints_oneCell _ _) (by unfold maxLen; omega) (by omega) hbase ?_
  intro v' w1 hown1 hg1 hnil
  rcases hown1.2 with ⟨e1, _⟩ | ⟨g', c', cur, e1, _⟩
  · exact absurd (hnil.1 e1).1 (by simp)
  · subst e1
    exact hK _ _ (h g' c' w1 hown1 hg1)

theorem clone_sl (ad : Addr) (n c : Nat) (l : List Int) (w : World) (hs : Hs.Seg w (some ad) n c l) (hn : n ≤ 4096) :
    Calls Try.prog 39 #[.slice (some ad) n c] w fun e w' => ∃ g' c', e = .returned (.slice (some ⟨g', 0, none⟩) n c') ∧ UR w' g' c' l ∧ w.heap.size ≤ g' ∧ w.grownBy w' none := by
  obtain ⟨i0, hi, hz0, hz1, hz2⟩ := info_parts info_u16
  have hown := World.ownsRow_made (base := w.heap.size) (e := 70) (size := 1) w #[] 0 (Nat.le_refl _) (by unfold maxLen; omega) rfl
  have HO := Lib.hid hown
  have HG := Lib.hid (grown_alloc w (.cells #[] 70))
  have HS := Lib.hid (hs.grown HG.out)
  have HL := Lib.hid hs.len
  have heq : ∀ W : World, (binOp .eql 69 (.slice (some ad) n c) (.slice none 0 0)).run Try.prog W = .ok (.bool false) W := fun W => by kernel_rfl
  clear hown hs
  go_enter Try.func39, Try.ntmps39
  go_wp2_with (at_builtin; refine wpList_append_h rfl (.tmp 5) (.tmp 6) 69 rfl w.heap.size 70 i0 Try.underlying69 hi hz0 hz1 hz2 w.heap.size 0 0 [] rfl HO.out ad n c l rfl HS.out (by omega) (by simp) ?_; intro g1 c1 w1 hown1 hgrow1; simp only [Nat.zero_add, List.nil_append] at hown1 ⊢; have HO1 := Lib.hid hown1; have HG1 := Lib.hid hgrow1; clear hown1 hgrow1)
  go_ret
  have hU : UR w1 g1 c1 l := by
    have h := HO1.out
    have hl := HL.out
    subst hl
    exact UR.own h
  refine ⟨g1, c1, rfl, hU, ?_, ?_⟩
  · rcases HO1.out.2 with ⟨e, _⟩ | ⟨g', cap, cur, e, hb, _⟩
    · cases e
    · cases e; exact hb
  · exact ⟨HG1.out.os, HG1.out.tape, HG1.out.output, Nat.le_trans HG.out.size HG1.out.size, fun i hi _ => (HG1.out.block i (Nat.lt_of_lt_of_le hi HG.out.size) (fun e => by have := Option.some.inj e; omega)).trans (HG.out.block i hi (by simp))⟩

theorem clone_nil (w : World) : Calls Try.prog 12 #[.pointer none] w fun e w' => e = .returned (.pointer none) ∧ w = w' := by
  have HV := Lib.hid (valid_nil w)
  go_enter Try.func12, Try.ntmps12
  go_wp2_with (first | (go_at_call 38; refine HV.out.mono ?_; rintro e w' ⟨rfl, rfl⟩) | fail)
  go_ret
  exact ⟨rfl, rfl⟩
/-- What Clone hands back. -/
def CloneX (w : World) (size : Int) (N : List Int) (e : Ending) (w' : World) : Prop :=
  w.grownBy w' none ∧ ∃ g h cap, e = .returned (.pointer (some ⟨g, 0, none⟩)) ∧ CC w' g h cap size N ∧ w.heap.size ≤ g ∧ w.heap.size ≤ h
set_option maxHeartbeats 2000000 in
theorem clone_any (g h cap : Nat) (size : Int) (N : List Int) (w : World) (hc : CC w g h cap size N) :
    Calls Try.prog 12 #[.pointer (some ⟨g, 0, none⟩)] w (CloneX w size N) := by
  have HV := Lib.hid (valid_yes g w hc.cells.2.2.2)
  obtain ⟨c0, c1, c2, c3⟩ := hc.cells
  have HSG := Lib.hid (fun W (k : w.grownBy W none) => (hc.old k).seg)
  have HS := Lib.hid hc.small
  have HCL := Lib.hid (fun W (k : w.grownBy W none) => clone_sl ⟨h, 0, none⟩ N.length cap N W (HSG.out W k) hc.small)
  have HW := Lib.hid (fun h2 cap2 W (k : UR W h2 cap2 N) => with_any size h2 cap2 N W k hc.small)
  have HD := Lib.hid (grown_drew w)
  obtain ⟨L, hL⟩ : ∃ L, N.length = L := ⟨_, rfl⟩
  rw [hL] at c1 c2 HCL HW
  clear hc c3 hL HSG HS
  go_enter Try.func12, Try.ntmps12
  go_wp2_with (first | (go_at_call 38; refine HV.out.mono ?_; rintro e w' ⟨rfl, rfl⟩) | fail)
  go_region_held3 (fun w' => w'.cell? ⟨g, 0, none⟩ = some (.int .i64 size) ∧ w'.cell? ⟨g, 1, none⟩ = some (.int .i64 (L : Int)) ∧ w'.cell? ⟨g, 2, none⟩ = some (.slice (some ⟨h, 0, none⟩) L cap)) (go_keep)
    (first
      | (go_at_call 39
         (with_reducible refine (HCL.out _ HD.out).mono ?_)
         rintro e w2 ⟨h2, cap2, rfl, hu2, hlt2, hg2⟩
         have HU2 := Lib.hid hu2
         have HL2 := Lib.hid hlt2
         have HG2 := Lib.hid (grown_then HD.out hg2)
         have k0 := (grown_turn HG2.out).cell c0 id
         have k1 := (grown_turn HG2.out).cell c1 id
         have k2 := (grown_turn HG2.out).cell c2 id
         clear hu2 hlt2 hg2)
      | (go_at_call 37
         (with_reducible refine (HW.out _ _ _ HU2.out).mono ?_)
         rintro e w3 ⟨rfl, hcc, hg3⟩
         have k0 := (grown_turn (grown_then HG2.out hg3)).cell c0 id
         have k1 := (grown_turn (grown_then HG2.out hg3)).cell c1 id
         have k2 := (grown_turn (grown_then HG2.out hg3)).cell c2 id
         have HX : Hid (CloneX w size N (.returned (.pointer (some ⟨w2.heap.size + 1, 0, none⟩))) w3) := Lib.hid ⟨grown_then HG2.out hg3, _, _, _, rfl, hcc, by have := HG2.out.size; omega, HL2.out⟩
         clear hcc hg3)
      | fail)
  go_wp2
  go_ret
  exact HX.out

/-- numbers in block h -/
def JR (w : World) (h : Nat) (l : List Int) : Prop := ∀ j, j < l.length → w.cell? ⟨h, j, none⟩ = some (.int .i64 (l.getD j 0)) ∧ w.frozen? ⟨h, j, none⟩ = false
theorem JR.turn {w w' : World} {h : Nat} {l : List Int} {S : Nat → Prop} (hc : JR w h l) (t : Turn w w' S) (hh : ¬ S h) : JR w' h l := fun j hj => by
  obtain ⟨h1, h2⟩ := hc j hj
  exact ⟨t.cell h1 hh, (t.frozen (p := ⟨h, j, none⟩) (World.block_lt_of_cell? w _ h1) hh).trans h2⟩
theorem JR.set {w : World} {h : Nat} {l : List Int} (hc : JR w h l) (k : Nat) (x : Int) (hk : k < l.length) : JR (w.setCell ⟨h, k, none⟩ (.int .i64 x)) h (l.set k x) := fun j hj => by
  rw [List.length_set] at hj
  rw [getD_set l k x j hk]
  have hfr : (w.setCell ⟨h, k, none⟩ (.int .i64 x)).frozen? ⟨h, j, none⟩ = w.frozen? ⟨h, j, none⟩ := World.frozen?_setCells h [.int .i64 x] k w _
  refine ⟨?_, hfr.trans (hc j hj).2⟩
  by_cases e : j = k
  · subst e
    rw [if_pos rfl]
    have h3 := World.cell?_setCells_in h [.int .i64 x] j w (fun i hi => by
      obtain rfl : i = 0 := by simpa using hi
      rw [Nat.add_zero, (hc j hj).1]; rfl) 0 (by simp)
    exact h3.trans rfl
  · rw [if_neg e]
    exact (World.cell?_setCells_out h [.int .i64 x] k w ⟨h, j, none⟩ (fun _ _ => by show j < k ∨ k + [Value.int .i64 x].length ≤ j; simp; omega)).trans (hc j hj).1
theorem JR.seg {w : World} {h : Nat} {l : List Int} (hc : JR w h l) (hl : l.length ≤ 1000000) : Js.Seg w (some ⟨h, 0, none⟩) l.length l.length l := by
  refine ⟨rfl, Nat.le_refl _, by unfold maxLen; omega, (fun e => by cases e), fun ad had j u hu => ?_⟩
  cases had
  rw [List.getElem?_map] at hu
  cases hq : l[j]? with
  | none => rw [hq] at hu; cases hu
  | some x =>
    rw [hq] at hu
    have h2 := (hc j (List.getElem?_eq_some_iff.1 hq).1).1
    rw [List.getD_eq_getElem?_getD, hq] at h2
    rw [Addr.add_lit, Nat.zero_add, ← Option.some.inj hu]
    exact h2
def roomJ (S : Nat) : Array Value := madeCells (Value.int .i64 0).cells S
theorem make_roomJ (S : Nat) (hS : S ≤ 1000000) (W : World) : (Instr.makeSlice 53 (.int .i64 (S : Int)) (.int .i64 (S : Int))).run Try.prog W = .ok (.slice (some ⟨W.heap.size, 0, none⟩) S S) (W.alloc (.cells (roomJ S) 3)) := by
  obtain ⟨i0, hi, hz0, hz1, hz2⟩ := info_parts Js.info_int
  have h := run_make (P := Try.prog) W 53 3 i0 (.int .i64 0) Try.underlying53 hi hz0 .i64 .i64 (S : Int) (S : Int) (by omega) (by omega) (by rw [hz2]; omega) (by omega)
  rw [hz1, Int.toNat_natCast, Nat.mul_one] at h
  exact h
theorem made_rowJ (W : World) (S : Nat) : JR (W.alloc (.cells (roomJ S) 3)) W.heap.size (List.replicate S 0) := fun j hj => by
  rw [List.length_replicate] at hj
  have q := heap_alloc_new W (.cells (roomJ S) 3)
  refine ⟨?_, by simp only [World.frozen?, q]; simp⟩
  rw [cell_of_row _ _ _ _ _ _ (heap_alloc_new W _)]
  have h1 : (roomJ S).toList = List.replicate S (Value.int .i64 0) := toList_madeCells_one _ _
  rw [← Array.getElem?_toList, h1]
  simp [List.getD, hj]
/-- the first k are filled in -/
def fillC (N : List Int) (k : Nat) : List Int := N.take k ++ List.replicate (N.length - k) 0
theorem fill_len (N : List Int) (k : Nat) (h : k ≤ N.length) : (fillC N k).length = N.length := by unfold fillC; rw [List.length_append, List.length_take, List.length_replicate]; omega
theorem fill_all (N : List Int) : fillC N N.length = N := by unfold fillC; rw [List.take_of_length_le (Nat.le_refl _), Nat.sub_self]; exact List.append_nil _
theorem fill_set (N : List Int) (k : Nat) (h : k < N.length) : (fillC N k).set k (N.getD k 0) = fillC N (k + 1) := by
  unfold fillC
  have ht : (N.take k).length = k := by rw [List.length_take]; omega
  rw [List.set_append_right _ _ (by omega), ht, Nat.sub_self, show N.length - k = (N.length - (k + 1)) + 1 by omega, List.replicate_succ, List.set_cons_zero, List.take_succ_eq_append_getElem h, List.append_assoc, List.getD_eq_getElem?_getD, List.getElem?_eq_getElem h]
  rfl

/-- What All hands back. -/
def AllX (w : World) (N : List Int) (e : Ending) (w' : World) : Prop :=
  w.grownBy w' none ∧ ∃ h, e = .returned (.slice (some ⟨h, 0, none⟩) N.length N.length) ∧ JR w' h N ∧ w.heap.size ≤ h
theorem all_nil (w : World) : Calls Try.prog 28 #[.pointer none] w fun e w' => e = .returned (.slice none 0 0) ∧ w = w' := by
  have HV := Lib.hid (valid_nil w)
  go_enter Try.func28, Try.ntmps28
  go_wp2_with (first | (go_at_call 38; refine HV.out.mono ?_; rintro e w' ⟨rfl, rfl⟩) | fail)
  go_ret
  exact ⟨rfl, rfl⟩
set_option maxHeartbeats 2000000 in
theorem all_any (g h cap : Nat) (size : Int) (N : List Int) (w : World) (hc : CC w g h cap size N) (hcn : IsC N) :
    Calls Try.prog 28 #[.pointer (some ⟨g, 0, none⟩)] w (AllX w N) := by
  have HV := Lib.hid (valid_yes g w hc.cells.2.2.2)
  have c2 := hc.cells.2.2.1
  have hs := hc.small
  have hle := hc.le
  have hmk := make_roomJ N.length (by omega)
  obtain ⟨W1, hW1⟩ : ∃ X, w.alloc (.cells (roomJ N.length) 3) = X := ⟨_, rfl⟩
  have HR0 : Hid (JR W1 w.heap.size (fillC N 0)) := Lib.hid (by rw [← hW1]; exact made_rowJ w N.length)
  have hg1 : w.grownBy W1 none := by rw [← hW1]; exact grown_alloc w _
  have HG1 := Lib.hid hg1
  have hc2 : (w.alloc (.cells (roomJ N.length) 3)).cell? ⟨g, 2, none⟩ = some (.slice (some ⟨h, 0, none⟩) N.length cap) := by rw [hW1]; exact (hc.old hg1).cells.2.2.1
  have HCR := Lib.hid (fun j hj => (hc.row j hj).1)
  have HCN := Lib.hid hcn
  have HFA := Lib.hid (fill_all N)
  have HFS := Lib.hid (fun k (hk : k < N.length) => fill_set N k hk)
  have HFL := Lib.hid (fun k (hk : k ≤ N.length) => fill_len N k hk)
  have HGT : Hid (∀ j, j < N.length → 0 ≤ N.getD j 0 ∧ N.getD j 0 < 65536) := Lib.hid (fun j hj => hcn _ (by rw [List.getD_eq_getElem?_getD, List.getElem?_eq_getElem hj]; exact List.getElem_mem hj))
  have HLT : Hid (h < w.heap.size) := Lib.hid hc.lt
  have HX : Hid (∀ W, JR W w.heap.size N → w.grownBy W none → AllX w N (.returned (.slice (some ⟨w.heap.size, 0, none⟩) N.length N.length)) W) := Lib.hid (fun W h1 h2 => ⟨h2, _, rfl, h1, Nat.le_refl _⟩)
  obtain ⟨L, hL⟩ : ∃ L, N.length = L := ⟨_, rfl⟩
  rw [hL] at c2 hs hle hmk hW1 hc2 HCR HFA HFS HFL HGT HX
  have HW1 := Lib.hid hW1
  clear hc hcn hL hg1 hW1
  go_enter Try.func28, Try.ntmps28
  go_wp2_with (first | (go_at_call 38; refine HV.out.mono ?_; rintro e w' ⟨rfl, rfl⟩) | fail)
  rw [HW1.out]
  go_loopw [20] (fun si wr => ∃ k : Nat, k ≤ L ∧ si = .int .i64 k ∧ Hid (JR wr w.heap.size (fillC N k)) ∧ Hid (w.grownBy wr none)) (fun si _ => L - (intOf si).toNat)
  case atStart => exact ⟨0, by omega, rfl, HR0, HG1⟩
  case round =>
    obtain ⟨k, hk, rfl, HR, HG⟩ := hrel
    by_cases hlt : k < L
    · have hq : decide (k < L) = true := decide_eq_true hlt
      have hcell := (grown_turn HG.out).cell (HCR.out k hlt) id
      have hx := HGT.out k hlt
      have hl := HFL.out k hk
      obtain ⟨hcell2, hfr2⟩ := HR.out k (by rw [hl]; have := HFL.out 0 (by omega); omega)
      have HS := Lib.hid (HR.out.set k (N.getD k 0) (by rw [hl]; have := HFL.out 0 (by omega); omega))
      rw [HFS.out k hlt] at HS
      obtain ⟨x, hxx⟩ : ∃ x, N.getD k 0 = x := ⟨_, rfl⟩
      rw [hxx] at hcell hx HS
      obtain ⟨y, hy⟩ : ∃ y, (fillC N k).getD k 0 = y := ⟨_, rfl⟩
      rw [hy] at hcell2
      have e1 : IntKind.i64.wrap x = x := IntWalk.i64_in _ (by omega)
      have HG2 : Hid (w.grownBy (wr.setCell ⟨w.heap.size, k, none⟩ (.int .i64 x)) none) := Lib.hid (grown_put HG.out (Turn.setCell wr ⟨w.heap.size, k, none⟩ (.int .i64 x) (S := (· = w.heap.size)) rfl) (Nat.le_refl _))
      clear hxx hy hl hx HR HG
      go_wp2
      go_roundw
      case rel => exact ⟨k + 1, by omega, by go_num, HS, HG2⟩
      case measure => simp [intOf]; omega
    · have hq : decide (k < L) = false := decide_eq_false hlt
      obtain rfl : k = L := by omega
      have HF := Lib.hid (HX.out wr (by rw [← HFA.out]; exact HR.out) HG.out)
      clear HR
      go_wp2
      go_ret
      exact HF.out

theorem used0_nil (w : World) : Calls Try.prog 19 #[.pointer none] w fun e w' => e = .returned (.int .i64 0) ∧ w = w' := by
  have HV := Lib.hid (all_nil w)
  go_enter Try.func19, Try.ntmps19
  go_wp2_with (first | (go_at_call 28; refine HV.out.mono ?_; rintro e w' ⟨rfl, rfl⟩) | fail)
  refine wp_loop_rounds 1 ?_
  rw [rounds_succ]
  go_wp2
  go_ret
  exact ⟨rfl, rfl⟩
set_option maxHeartbeats 1000000 in
theorem usedc_any (g h cap : Nat) (size : Int) (N : List Int) (w : World) (hc : CC w g h cap size N) (hcn : IsC N) :
    Calls Try.prog 19 #[.pointer (some ⟨g, 0, none⟩)] w fun e w' => e = .returned (.int .i64 (usedC N : Int)) ∧ w.grownBy w' none := by
  have HA := Lib.hid (all_any g h cap size N w hc hcn)
  have hs := hc.small
  have HU := Lib.hid (fun i (hi : i < N.length) => used_take N i hi)
  have HF : Hid (usedC (N.take N.length) = usedC N) := Lib.hid (by rw [List.take_of_length_le (Nat.le_refl _)])
  have HB : Hid (∀ i, usedC (N.take i) ≤ 4096) := Lib.hid (fun i => by
    have h1 : usedC (N.take i) ≤ (N.take i).length := List.countP_le_length
    rw [List.length_take] at h1
    omega)
  have HJ : Hid (∀ W a, JR W a N → ∀ j, j < N.length → W.cell? ⟨a, j, none⟩ = some (.int .i64 (N.getD j 0))) := Lib.hid (fun W a h j hj => (h j hj).1)
  have HAX : Hid (∀ e W, AllX w N e W → w.grownBy W none ∧ ∃ a, e = .returned (.slice (some ⟨a, 0, none⟩) N.length N.length) ∧ JR W a N) := Lib.hid (fun e W ⟨h1, a, h2, h3, _⟩ => ⟨h1, a, h2, h3⟩)
  obtain ⟨L, hL⟩ : ∃ L, N.length = L := ⟨_, rfl⟩
  rw [hL] at hs HU HF HJ HAX
  clear hc hcn hL
  go_enter Try.func19, Try.ntmps19
  go_wp2_with fail
  refine HA.out.mono ?_
  intro e w1 hax
  obtain ⟨hg, a, rfl, hj⟩ := HAX.out _ _ hax
  have HG := Lib.hid hg
  have HR := Lib.hid (HJ.out w1 a hj)
  clear hax hg hj
  dsimp only
  go_wp2
  go_loopw [3, 9] (fun s3 s9 wr => ∃ i : Nat, i ≤ L ∧ s9 = .int .i64 i ∧ s3 = .int .i64 (usedC (N.take i) : Int) ∧ w1 = wr) (fun _ s9 _ => L - (intOf s9).toNat)
  case atStart => exact ⟨0, Nat.zero_le _, rfl, rfl, rfl⟩
  case round =>
    obtain ⟨i, hi, rfl, rfl, rfl⟩ := hrel
    have hb := HB.out i
    by_cases hlt : i < L
    · have hq : decide (i < L) = true := decide_eq_true hlt
      have hcell := HR.out i hlt
      have HUi := Lib.hid (HU.out i hlt)
      obtain ⟨x, hx⟩ : ∃ x, N.getD i 0 = x := ⟨_, rfl⟩
      rw [hx] at hcell HUi
      obtain ⟨u, hu⟩ : ∃ u, usedC (N.take i) = u := ⟨_, rfl⟩
      rw [hu] at HUi hb
      rw [hu]
      clear hx hu
      by_cases h0 : 0 < x
      · have q0 : decide (0 < x) = true := decide_eq_true h0
        have HV : Hid (usedC (N.take (i + 1)) = u + 1) := Lib.hid (by rw [HUi.out, if_pos h0])
        clear h0 HUi
        go_wp2
        go_roundw
        case rel => exact ⟨i + 1, by omega, by go_num, by rw [HV.out]; go_num, trivial⟩
        case measure => simp [intOf]; omega
      · have q0 : decide (0 < x) = false := decide_eq_false h0
        have HV : Hid (usedC (N.take (i + 1)) = u) := Lib.hid (by rw [HUi.out, if_neg h0]; rfl)
        clear h0 HUi
        go_wp2
        go_roundw
        case rel => exact ⟨i + 1, by omega, by go_num, by rw [HV.out], trivial⟩
        case measure => simp [intOf]; omega
    · have hq : decide (i < L) = false := decide_eq_false hlt
      obtain rfl : i = L := by omega
      rw [HF.out]
      go_wp2
      go_ret
      exact ⟨rfl, HG.out⟩
end Go.Proofs.Ytkinmcnmdfpjbaa.Cn
