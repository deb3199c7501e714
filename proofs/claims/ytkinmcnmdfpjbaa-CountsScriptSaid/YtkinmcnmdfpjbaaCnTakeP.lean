/-
  The program's Take.
-/
import Derived.Test.YtkinmcnmdfpjbaaCnAll
import Derived.Test.YtkinmcnmdfpjbaaSuEq
namespace Go.Proofs.Ytkinmcnmdfpjbaa.Cn
open Go.RowKit Bs Dv Gr

/-- What Take leaves. -/
def TookC (H N : List Int) (g h cap : Nat) (size : Int) (w : World) (e : Ending) (w' : World) : Prop :=
  Turn w w' (· = h) ∧ ((∃ k, TakeR H N (some k) ∧ e = .returned (.tuple #[.int .u32 (k : Int), .int .i64 0]) ∧ CC w' g h cap size (N.set k 1)) ∨ (TakeR H N none ∧ e = .returned (.tuple #[.int .u32 0, .int .i64 9]) ∧ CC w' g h cap size N))
theorem take_bad (p : Option Addr) (w : World) : Calls Try.prog 13 #[.pointer none, .pointer p] w fun e w' => e = .returned (.tuple #[.int .u32 0, .int .i64 1]) ∧ w = w' := by
  have HV := Lib.hid (valid_nil w)
  go_enter Try.func13, Try.ntmps13
  go_wp2_with (first | (go_at_call 38; refine HV.out.mono ?_; rintro e w' ⟨rfl, rfl⟩) | fail)
  go_ret2
  exact ⟨rfl, rfl⟩

set_option maxHeartbeats 2000000 in
theorem take_nil (g h cap : Nat) (size : Int) (N : List Int) (w : World) (hc : CC w g h cap size N) (ho : CnOk size N.length N) :
    Calls Try.prog 13 #[.pointer (some ⟨g, 0, none⟩), .pointer none] w (TookC [] N g h cap size w) := by
  have HV := Lib.hid (valid_yes g w hc.cells.2.2.2)
  have HC := Lib.hid hc
  have HCN := Lib.hid ho.cnt
  have HA0 := Lib.hid ho.at0
  have HA1 := Lib.hid ho.at1
  have hle := hc.le
  have hs := hc.small
  clear hc ho
  go_enter Try.func13, Try.ntmps13
  go_upto_region 3 with (first | (go_at_call 38; refine HV.out.mono ?_; rintro e w' ⟨rfl, rfl⟩) | fail)
  refine wp_region_grow (by kernel_rfl) ?_
  repeat (go_big_quiet_step (fail))
  refine wpQuiet_nil ?_
  rintro _ ⟨pw, rfl⟩
  have HG1 : Hid (w.grownBy pw.at_ none) := Lib.hid pw.grown
  obtain ⟨W1, hW1⟩ : ∃ X, X = pw.at_ := ⟨_, rfl⟩
  rw [← hW1] at HG1 ⊢
  clear hW1 pw
  have HC1 := Lib.hid (HC.out.old HG1.out)
  have HGC : Hid (∀ n : Nat, n < 4294967296 → Calls Try.prog 18 #[.pointer (some ⟨g, 0, none⟩), .int .u32 (n : Int)] W1 fun e w' => e = .returned (.int .i64 (N.getD n 0)) ∧ W1 = w') := Lib.hid (fun n hn => get_any g h cap size N n W1 HC1.out hn HCN.out)
  have HGH : Hid (∀ n : Nat, n < 4294967296 → Calls Try.prog 18 #[.pointer none, .int .u32 (n : Int)] W1 fun e w' => e = .returned (.int .i64 (([] : List Int).getD n 0)) ∧ W1 = w') := Lib.hid (fun n _ => get_nil n W1)
  have c2 := HC1.out.cells.2.2.1
  have HSE := Lib.hid (fun k x (hk : k < N.length) => HC1.out.set k x hk)
  have HF : Hid (∀ j, freeC [] N j ↔ 2 ≤ j ∧ j < N.length ∧ N.getD j 0 = 0 ∧ ([] : List Int).getD j 0 = 0) := Lib.hid (fun j => Iff.rfl)
  have HTW : Hid (Turn w W1 (· = h)) := Lib.hid ((grown_turn HG1.out).mono (fun _ _ e => e.elim))
  have HRW := Lib.hid (fun j (hj : j < N.length) => HC1.out.row j hj)
  obtain ⟨L, hL⟩ : ∃ L, N.length = L := ⟨_, rfl⟩
  rw [hL] at c2 hle hs HSE HF HRW
  have ew : IntKind.u32.wrap (L : Int) = (L : Int) := by rw [IntKind.wrap_u32]; omega
  clear hL HC HCN
  go_wp2
  go_loopw [36] (fun si wr => ∃ i : Nat, i ≤ L ∧ si = .int .u32 i ∧ Hid (∀ j, j < i → ¬ freeC [] N j) ∧ W1 = wr) (fun si _ => L - (intOf si).toNat)
  case atStart => exact ⟨0, by omega, rfl, Lib.hid (fun j hj => by omega), rfl⟩
  case round =>
    obtain ⟨i, hi, rfl, HNF, rfl⟩ := hrel
    by_cases hlt : i < L
    · have hq : decide (i < L) = true := decide_eq_true hlt
      obtain ⟨hcell, hfr⟩ := HRW.out i hlt
      have HS2 := Lib.hid (HSE.out i 1 hlt)
      have HFI := Lib.hid (HF.out i)
      have HG2 := Lib.hid (HGC.out i (by omega))
      have HGO := Lib.hid (HGH.out i (by omega))
      have e1 : IntKind.u32.wrap ((i : Int) + 1) = (i : Int) + 1 := by rw [IntKind.wrap_u32]; omega
      have h2i : N.getD i 0 = 0 → 2 ≤ i := fun h0 => by
        rcases i with _ | _ | i
        · rw [HA0.out] at h0; cases h0
        · rw [HA1.out] at h0; cases h0
        · omega
      have H2I := Lib.hid h2i
      obtain ⟨x, hx⟩ : ∃ x, N.getD i 0 = x := ⟨_, rfl⟩
      obtain ⟨y, hy⟩ : ∃ y, ([] : List Int).getD i 0 = y := ⟨_, rfl⟩
      rw [hx] at hcell HFI HG2 H2I
      rw [hy] at HFI HGO
      clear hx hy h2i
      by_cases h0 : x = 0
      · have q0 : (x == 0) = true := beq_iff_eq.2 h0
        have HI2 := Lib.hid (H2I.out h0)
        by_cases h1 : y = 0
        · have q1 : (y == 0) = true := beq_iff_eq.2 h1
          have HX : Hid (TookC [] N g h cap size w (.returned (.tuple #[.int .u32 (i : Int), .int .i64 0])) (W1.setCell ⟨h, i, none⟩ (.int .u16 1))) := Lib.hid ⟨HTW.out.trans HS2.out.2 (fun _ _ e => e), .inl ⟨i, .one i (HFI.out.2 ⟨HI2.out, hlt, h0, h1⟩) HNF.out, rfl, HS2.out.1⟩⟩
          clear h0 h1 HS2 HFI H2I HI2
          go_wp2_with fail
          refine HG2.out.mono ?_
          rintro e w' ⟨rfl, rfl⟩
          dsimp only
          go_wp2_with fail
          refine HGO.out.mono ?_
          rintro e w' ⟨rfl, rfl⟩
          dsimp only
          go_wp2
          go_ret2
          exact HX.out
        · have q1 : (y == 0) = false := beq_eq_false_iff_ne.2 h1
          have HN2 : Hid (∀ j, j < i + 1 → ¬ freeC [] N j) := Lib.hid (fun j hj => by
            by_cases e : j = i
            · rw [e]; exact fun hf => h1 (HFI.out.1 hf).2.2.2
            · exact HNF.out j (by omega))
          clear h0 h1 HS2 HFI HNF H2I HI2
          go_wp2_with fail
          refine HG2.out.mono ?_
          rintro e w' ⟨rfl, rfl⟩
          dsimp only
          go_wp2_with fail
          refine HGO.out.mono ?_
          rintro e w' ⟨rfl, rfl⟩
          dsimp only
          go_wp2
          go_roundw
          case rel => exact ⟨i + 1, by omega, by go_num, HN2, trivial⟩
          case measure => simp [intOf]; omega
      · have q0 : (x == 0) = false := beq_eq_false_iff_ne.2 h0
        have HN2 : Hid (∀ j, j < i + 1 → ¬ freeC [] N j) := Lib.hid (fun j hj => by
          by_cases e : j = i
          · rw [e]; exact fun hf => h0 (HFI.out.1 hf).2.2.1
          · exact HNF.out j (by omega))
        clear h0 HS2 HFI HNF H2I
        go_wp2_with fail
        refine HG2.out.mono ?_
        rintro e w' ⟨rfl, rfl⟩
        dsimp only
        go_wp2
        go_roundw
        case rel => exact ⟨i + 1, by omega, by go_num, HN2, trivial⟩
        case measure => simp [intOf]; omega
    · have hq : decide (i < L) = false := decide_eq_false hlt
      have HX : Hid (TookC [] N g h cap size w (.returned (.tuple #[.int .u32 0, .int .i64 9])) W1) := Lib.hid ⟨HTW.out, .inr ⟨.full fun j hf => HNF.out j (by have := ((HF.out j).1 hf).2.1; omega) hf, rfl, HC1.out⟩⟩
      clear HNF
      go_wp2
      go_ret2
      exact HX.out

set_option maxHeartbeats 2000000 in
theorem take_held (g h cap : Nat) (size : Int) (N : List Int) (g2 h2 cap2 : Nat) (H : List Int) (w : World) (hc : CC w g h cap size N) (ho : CnOk size N.length N) (hd : CC w g2 h2 cap2 size H) (hhn : IsC H) (hsame : H.length = N.length) :
    Calls Try.prog 13 #[.pointer (some ⟨g, 0, none⟩), .pointer (some ⟨g2, 0, none⟩)] w (TookC H N g h cap size w) := by
  have HV := Lib.hid (valid_yes g w hc.cells.2.2.2)
  have HC := Lib.hid hc
  have HCN := Lib.hid ho.cnt
  have HA0 := Lib.hid ho.at0
  have HA1 := Lib.hid ho.at1
  have hle := hc.le
  have hs := hc.small
  have HD := Lib.hid hd
  have HHN := Lib.hid hhn
  have HV2 : Hid (∀ q : Gw w, Calls Try.prog 38 #[.pointer (some ⟨g2, 0, none⟩)] q.at_ fun e w' => e = .returned (.bool true) ∧ q.at_.grownBy w' none) := Lib.hid (fun q => (valid_yes g2 q.at_ (hd.old q.grown).cells.2.2.2).mono fun e w' h => ⟨h.1, by rw [← h.2]; exact grown_refl _⟩)
  have a0 : ∀ q : Gw w, q.at_.cell? ⟨g, 0, none⟩ = some (.int .i64 size) := fun q => (hc.old q.grown).cells.1
  have a1 : ∀ q : Gw w, q.at_.cell? ⟨g, 1, none⟩ = some (.int .i64 (N.length : Int)) := fun q => (hc.old q.grown).cells.2.1
  have b0 : ∀ q : Gw w, q.at_.cell? ⟨g2, 0, none⟩ = some (.int .i64 size) := fun q => (hd.old q.grown).cells.1
  have b1 : ∀ q : Gw w, q.at_.cell? ⟨g2, 1, none⟩ = some (.int .i64 (H.length : Int)) := fun q => (hd.old q.grown).cells.2.1
  have hnq := fun W => Su.neq_geo size (H.length : Int) size (N.length : Int) W
  rw [decide_eq_true rfl, hsame, decide_eq_true rfl] at hnq
  rw [hsame] at b1
  obtain ⟨L0, hL0⟩ : ∃ L, N.length = L := ⟨_, rfl⟩
  rw [hL0] at a1 b1 hnq
  clear hsame hhn hd hL0
  clear hc ho
  go_enter Try.func13, Try.ntmps13
  go_upto_region 3 with (first | (go_at_call 38; refine HV.out.mono ?_; rintro e w' ⟨rfl, rfl⟩) | fail)
  refine wp_region_grow (by kernel_rfl) ?_
  repeat (go_big_quiet_step (first | (go_at_call 38; with_reducible exact Calls.grow_of (HV2.out _)) | fail))
  refine wpQuiet_nil ?_
  rintro _ ⟨pw, rfl⟩
  have HG1 : Hid (w.grownBy pw.at_ none) := Lib.hid pw.grown
  obtain ⟨W1, hW1⟩ : ∃ X, X = pw.at_ := ⟨_, rfl⟩
  rw [← hW1] at HG1 ⊢
  clear hW1 pw a0 a1 b0 b1 hnq HV2
  have HC1 := Lib.hid (HC.out.old HG1.out)
  have HGC : Hid (∀ n : Nat, n < 4294967296 → Calls Try.prog 18 #[.pointer (some ⟨g, 0, none⟩), .int .u32 (n : Int)] W1 fun e w' => e = .returned (.int .i64 (N.getD n 0)) ∧ W1 = w') := Lib.hid (fun n hn => get_any g h cap size N n W1 HC1.out hn HCN.out)
  have HGH : Hid (∀ n : Nat, n < 4294967296 → Calls Try.prog 18 #[.pointer (some ⟨g2, 0, none⟩), .int .u32 (n : Int)] W1 fun e w' => e = .returned (.int .i64 (H.getD n 0)) ∧ W1 = w') := Lib.hid (fun n hn => get_any g2 h2 cap2 size H n W1 (HD.out.old HG1.out) hn HHN.out)
  have c2 := HC1.out.cells.2.2.1
  have HSE := Lib.hid (fun k x (hk : k < N.length) => HC1.out.set k x hk)
  have HF : Hid (∀ j, freeC H N j ↔ 2 ≤ j ∧ j < N.length ∧ N.getD j 0 = 0 ∧ H.getD j 0 = 0) := Lib.hid (fun j => Iff.rfl)
  have HTW : Hid (Turn w W1 (· = h)) := Lib.hid ((grown_turn HG1.out).mono (fun _ _ e => e.elim))
  have HRW := Lib.hid (fun j (hj : j < N.length) => HC1.out.row j hj)
  obtain ⟨L, hL⟩ : ∃ L, N.length = L := ⟨_, rfl⟩
  rw [hL] at c2 hle hs HSE HF HRW
  have ew : IntKind.u32.wrap (L : Int) = (L : Int) := by rw [IntKind.wrap_u32]; omega
  clear hL HC HCN
  go_wp2
  go_loopw [36] (fun si wr => ∃ i : Nat, i ≤ L ∧ si = .int .u32 i ∧ Hid (∀ j, j < i → ¬ freeC H N j) ∧ W1 = wr) (fun si _ => L - (intOf si).toNat)
  case atStart => exact ⟨0, by omega, rfl, Lib.hid (fun j hj => by omega), rfl⟩
  case round =>
    obtain ⟨i, hi, rfl, HNF, rfl⟩ := hrel
    by_cases hlt : i < L
    · have hq : decide (i < L) = true := decide_eq_true hlt
      obtain ⟨hcell, hfr⟩ := HRW.out i hlt
      have HS2 := Lib.hid (HSE.out i 1 hlt)
      have HFI := Lib.hid (HF.out i)
      have HG2 := Lib.hid (HGC.out i (by omega))
      have HGO := Lib.hid (HGH.out i (by omega))
      have e1 : IntKind.u32.wrap ((i : Int) + 1) = (i : Int) + 1 := by rw [IntKind.wrap_u32]; omega
      have h2i : N.getD i 0 = 0 → 2 ≤ i := fun h0 => by
        rcases i with _ | _ | i
        · rw [HA0.out] at h0; cases h0
        · rw [HA1.out] at h0; cases h0
        · omega
      have H2I := Lib.hid h2i
      obtain ⟨x, hx⟩ : ∃ x, N.getD i 0 = x := ⟨_, rfl⟩
      obtain ⟨y, hy⟩ : ∃ y, H.getD i 0 = y := ⟨_, rfl⟩
      rw [hx] at hcell HFI HG2 H2I
      rw [hy] at HFI HGO
      clear hx hy h2i
      by_cases h0 : x = 0
      · have q0 : (x == 0) = true := beq_iff_eq.2 h0
        have HI2 := Lib.hid (H2I.out h0)
        by_cases h1 : y = 0
        · have q1 : (y == 0) = true := beq_iff_eq.2 h1
          have HX : Hid (TookC H N g h cap size w (.returned (.tuple #[.int .u32 (i : Int), .int .i64 0])) (W1.setCell ⟨h, i, none⟩ (.int .u16 1))) := Lib.hid ⟨HTW.out.trans HS2.out.2 (fun _ _ e => e), .inl ⟨i, .one i (HFI.out.2 ⟨HI2.out, hlt, h0, h1⟩) HNF.out, rfl, HS2.out.1⟩⟩
          clear h0 h1 HS2 HFI H2I HI2
          go_wp2_with fail
          refine HG2.out.mono ?_
          rintro e w' ⟨rfl, rfl⟩
          dsimp only
          go_wp2_with fail
          refine HGO.out.mono ?_
          rintro e w' ⟨rfl, rfl⟩
          dsimp only
          go_wp2
          go_ret2
          exact HX.out
        · have q1 : (y == 0) = false := beq_eq_false_iff_ne.2 h1
          have HN2 : Hid (∀ j, j < i + 1 → ¬ freeC H N j) := Lib.hid (fun j hj => by
            by_cases e : j = i
            · rw [e]; exact fun hf => h1 (HFI.out.1 hf).2.2.2
            · exact HNF.out j (by omega))
          clear h0 h1 HS2 HFI HNF H2I HI2
          go_wp2_with fail
          refine HG2.out.mono ?_
          rintro e w' ⟨rfl, rfl⟩
          dsimp only
          go_wp2_with fail
          refine HGO.out.mono ?_
          rintro e w' ⟨rfl, rfl⟩
          dsimp only
          go_wp2
          go_roundw
          case rel => exact ⟨i + 1, by omega, by go_num, HN2, trivial⟩
          case measure => simp [intOf]; omega
      · have q0 : (x == 0) = false := beq_eq_false_iff_ne.2 h0
        have HN2 : Hid (∀ j, j < i + 1 → ¬ freeC H N j) := Lib.hid (fun j hj => by
          by_cases e : j = i
          · rw [e]; exact fun hf => h0 (HFI.out.1 hf).2.2.1
          · exact HNF.out j (by omega))
        clear h0 HS2 HFI HNF H2I
        go_wp2_with fail
        refine HG2.out.mono ?_
        rintro e w' ⟨rfl, rfl⟩
        dsimp only
        go_wp2
        go_roundw
        case rel => exact ⟨i + 1, by omega, by go_num, HN2, trivial⟩
        case measure => simp [intOf]; omega
    · have hq : decide (i < L) = false := decide_eq_false hlt
      have HX : Hid (TookC H N g h cap size w (.returned (.tuple #[.int .u32 0, .int .i64 9])) W1) := Lib.hid ⟨HTW.out, .inr ⟨.full fun j hf => HNF.out j (by have := ((HF.out j).1 hf).2.1; omega) hf, rfl, HC1.out⟩⟩
      clear HNF
      go_wp2
      go_ret2
      exact HX.out

set_option maxHeartbeats 2000000 in
theorem take_other (g h cap : Nat) (size size2 : Int) (N : List Int) (g2 h2 cap2 : Nat) (H : List Int) (w : World) (hc : CC w g h cap size N) (ho : CnOk size N.length N) (hd : CC w g2 h2 cap2 size2 H) (hhn : IsC H) (hno : ¬ (size2 = size ∧ H.length = N.length)) :
    Calls Try.prog 13 #[.pointer (some ⟨g, 0, none⟩), .pointer (some ⟨g2, 0, none⟩)] w fun e w' => e = .returned (.tuple #[.int .u32 0, .int .i64 2]) ∧ w.grownBy w' none := by
  have HV := Lib.hid (valid_yes g w hc.cells.2.2.2)
  have HC := Lib.hid hc
  have HCN := Lib.hid ho.cnt
  have HA0 := Lib.hid ho.at0
  have HA1 := Lib.hid ho.at1
  have hle := hc.le
  have hs := hc.small
  have HD := Lib.hid hd
  have HHN := Lib.hid hhn
  have HV2 : Hid (∀ q : Gw w, Calls Try.prog 38 #[.pointer (some ⟨g2, 0, none⟩)] q.at_ fun e w' => e = .returned (.bool true) ∧ q.at_.grownBy w' none) := Lib.hid (fun q => (valid_yes g2 q.at_ (hd.old q.grown).cells.2.2.2).mono fun e w' h => ⟨h.1, by rw [← h.2]; exact grown_refl _⟩)
  have a0 : ∀ q : Gw w, q.at_.cell? ⟨g, 0, none⟩ = some (.int .i64 size) := fun q => (hc.old q.grown).cells.1
  have a1 : ∀ q : Gw w, q.at_.cell? ⟨g, 1, none⟩ = some (.int .i64 (N.length : Int)) := fun q => (hc.old q.grown).cells.2.1
  have b0 : ∀ q : Gw w, q.at_.cell? ⟨g2, 0, none⟩ = some (.int .i64 size2) := fun q => (hd.old q.grown).cells.1
  have b1 : ∀ q : Gw w, q.at_.cell? ⟨g2, 1, none⟩ = some (.int .i64 (H.length : Int)) := fun q => (hd.old q.grown).cells.2.1
  have hnq := fun W => Su.neq_geo size2 (H.length : Int) size (N.length : Int) W
  have hz : (!(decide (size2 = size) && decide ((H.length : Int) = (N.length : Int)))) = true := by
    rw [Bool.not_eq_true', Bool.and_eq_false_iff]
    by_cases k : size2 = size
    · exact .inr (decide_eq_false (fun e => hno ⟨k, by omega⟩))
    · exact .inl (decide_eq_false k)
  rw [hz] at hnq
  obtain ⟨L0, hL0⟩ : ∃ L, N.length = L := ⟨_, rfl⟩
  obtain ⟨L1, hL1⟩ : ∃ L, H.length = L := ⟨_, rfl⟩
  rw [hL0] at a1 hnq
  rw [hL1] at b1 hnq
  clear hno hhn hd hL0 hL1 hz
  clear hc ho
  go_enter Try.func13, Try.ntmps13
  go_upto_region 3 with (first | (go_at_call 38; refine HV.out.mono ?_; rintro e w' ⟨rfl, rfl⟩) | fail)
  refine wp_region_grow (by kernel_rfl) ?_
  repeat (go_big_quiet_step (first | (go_at_call 38; with_reducible exact Calls.grow_of (HV2.out _)) | fail))
  refine wpQuiet_nil ?_
  rintro _ ⟨pw, rfl⟩
  have HG1 : Hid (w.grownBy pw.at_ none) := Lib.hid pw.grown
  clear a0 a1 b0 b1 hnq HV2
  go_wp2
  go_ret2
  exact ⟨rfl, HG1.out⟩
end Go.Proofs.Ytkinmcnmdfpjbaa.Cn
