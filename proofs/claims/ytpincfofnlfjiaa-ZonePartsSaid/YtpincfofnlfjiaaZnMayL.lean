/-
  ZoneMay: if a cell of a column is so to another one, its zone may; it holds the column, and may be.
-/
import Derived.Test.YtpincfofnlfjiaaZnLives
import Derived.Test.YtpincfofnlfjiaaZnGrow
import Derived.Test.YtpincfofnlfjiaaZnCheck
namespace Go.Proofs.Ytpincfofnlfjiaa.Zn
open Go.RowKit Bs Dv

/-- cells ahead of the k-th are of the kind (or null), and may be -/
def OkTo (l : List Cel) (kind : Int) (k : Nat) : Prop := ∀ i, i < k → i < l.length → ((l.getD i zeroC).k ≠ 0 → (l.getD i zeroC).k = kind) ∧ cellE (l.getD i zeroC) = 0
theorem OkTo.next {l : List Cel} {kind : Int} {k : Nat} (h : OkTo l kind k) (h1 : (l.getD k zeroC).k ≠ 0 → (l.getD k zeroC).k = kind) (h2 : cellE (l.getD k zeroC) = 0) : OkTo l kind (k + 1) := fun i hi hl => by
  by_cases e : i = k
  · subst e; exact ⟨h1, h2⟩
  · exact h i (by omega) hl
theorem OkTo.all {l : List Cel} {kind : Int} (h : OkTo l kind l.length) : ∀ x ∈ l, (x.k ≠ 0 → x.k = kind) ∧ cellE x = 0 := fun x hx => by
  obtain ⟨i, hi, rfl⟩ := List.mem_iff_getElem.1 hx
  have := h i hi hi
  simpa [List.getD, hi] using this
theorem getD_mem {l : List Cel} {k : Nat} (h : k < l.length) : l.getD k zeroC ∈ l := by
  rw [List.getD_eq_getElem?_getD, List.getElem?_eq_getElem h]
  exact List.getElem_mem h
/-- The cells of one place, in every world that has grown out of W. -/
theorem cells_gw {W : World} {B O k : Nat} {x : Cel} (h : W.cell? ⟨B, O + k * 3, none⟩ = some (.int .i64 x.k) ∧ W.cell? ⟨B, O + k * 3 + 1, none⟩ = some (.int .i64 x.n) ∧ W.cell? ⟨B, O + k * 3 + 2, none⟩ = some (.string x.s)) :
    (∀ q : Gw W, q.at_.cell? ⟨B, O + k * 3, none⟩ = some (.int .i64 x.k)) ∧ (∀ q : Gw W, q.at_.cell? ⟨B, O + k * 3 + 1, none⟩ = some (.int .i64 x.n)) ∧ ∀ q : Gw W, q.at_.cell? ⟨B, O + k * 3 + 2, none⟩ = some (.string x.s) :=
  ⟨fun q => (grown_turn q.grown).cell h.1 id, fun q => (grown_turn q.grown).cell h.2.1 id, fun q => (grown_turn q.grown).cell h.2.2 id⟩

set_option maxRecDepth 100000 in
set_option maxHeartbeats 8000000 in
theorem may_any (kind : Int) (a : Option Addr) (n cap : Nat) (l : List Cel) (op : Int) (c : Cel) (w : World) (hs : CSeg w a n cap l) (ho : StrsOk l) :
    Calls Try.prog 5 #[.int .i64 kind, .slice a n cap, .int .i64 op, .agg #[.int .i64 c.k, .int .i64 c.n, .string c.s]] w fun e w' => e = .returned (.bool true) ∧ Below w.heap.size w w' := by
  have hcap := hs.le
  have hcap2 := hs.cap
  unfold maxLen at hcap2
  have HL := Lib.hid hs.len
  obtain ⟨W0, hW0⟩ : ∃ W0, w.alloc (.cells #[.int .i64 c.k, .int .i64 c.n, .string c.s] 24) = W0 := ⟨_, rfl⟩
  have G0 : Hid (w.grownBy W0 none) := Lib.hid (by rw [← hW0]; exact grown_alloc _ _)
  have C0 : Hid (CB W0 w.heap.size c) := Lib.hid (by rw [← hW0]; exact CB.new w c)
  have S0 := Lib.hid (hs.old G0.out)
  have HW0 := Lib.hid hW0
  clear hW0 hs
  go_enter Try.func5, Try.ntmps5
  go_wp2_with fail
  rw [HW0.out]
  refine (lives_any _).mono ?_
  rintro e w1 ⟨rfl, hg⟩
  have G1 := Lib.hid (grown_then G0.out hg)
  have C1 := Lib.hid (C0.out.old hg)
  have S1 := Lib.hid (S0.out.old hg)
  clear hg G0 C0 S0 HW0
  dsimp only
  go_wp2_with fail
  refine (light_any a n cap l _ S1.out ho).mono ?_
  rintro e wl ⟨lb, rfl, hlb, rfl⟩
  have HLB := Lib.hid hlb
  clear hlb
  cases lb
  · dsimp only
    go_wp2
    go_ret
    exact ⟨rfl, below_of G1.out⟩
  · have hn60 : n ≤ 60 := HLB.out rfl
    clear HLB
    dsimp only
    go_wp2
    go_loopw [9] (fun iv wx => ∃ k : Nat, iv = .int .i64 k ∧ k ≤ n ∧ OkTo l kind k ∧ w1.grownBy wx none) (fun iv _ => n - (intOf iv).toNat)
    case atStart => exact ⟨0, rfl, Nat.zero_le _, (fun i hi _ => by omega), grown_refl _⟩
    case round =>
      obtain ⟨k, rfl, hk, hp, hg⟩ := hrel
      have GC := Lib.hid hg
      have HP := Lib.hid hp
      clear hg hp
      by_cases hlt : k < n
      · obtain ⟨B, O, rfl, hcs⟩ := (S1.out.old GC.out).form (by omega)
        obtain ⟨c0, c1, c2⟩ := hcs k hlt
        clear hcs
        have HNX := Lib.hid (fun h1 h2 => HP.out.next (k := k) h1 h2)
        obtain ⟨x, hx⟩ : ∃ x, x = l.getD k zeroC := ⟨_, rfl⟩
        rw [← hx] at c0 c1 c2 HNX
        have HX := Lib.hid (fun W => Cell_any x W)
        obtain ⟨r, hr⟩ : ∃ r, r = cellE x := ⟨_, rfl⟩
        rw [← hr] at HX HNX
        clear hx hr HP
        by_cases h0 : x.k = 0
        · have q0 : (x.k != 0) = false := by rw [h0]; rfl
          by_cases h2 : r = 0
          · have HP1 := Lib.hid (HNX.out (fun h => absurd h0 h) h2)
            have q2 : (r != 0) = false := by rw [h2]; rfl
            clear HNX h0 h2
            go_wp2_with fail
            refine (HX.out _).mono ?_
            rintro e wk ⟨rfl, hg⟩
            have GC := Lib.hid (grown_then GC.out hg)
            clear hg
            dsimp only
            go_wp2
            go_roundw
            case rel => exact ⟨k + 1, by go_num, by omega, HP1.out, GC.out⟩
            case measure => simp [intOf]; omega
          · have q2 : (r != 0) = true := bne_iff_ne.2 h2
            clear HNX h0 h2
            go_wp2_with fail
            refine (HX.out _).mono ?_
            rintro e wk ⟨rfl, hg⟩
            have GC := Lib.hid (grown_then GC.out hg)
            clear hg
            dsimp only
            go_wp2
            go_ret
            exact ⟨rfl, below_of (grown_then G1.out GC.out)⟩
        · have q0 : (x.k != 0) = true := bne_iff_ne.2 h0
          by_cases h1 : x.k = kind
          · have q1 : (x.k != kind) = false := by rw [h1]; exact bne_self_eq_false _
            by_cases h2 : r = 0
            · have HP1 := Lib.hid (HNX.out (fun _ => h1) h2)
              have q2 : (r != 0) = false := by rw [h2]; rfl
              clear HNX h0 h1 h2
              go_wp2_with fail
              refine (HX.out _).mono ?_
              rintro e wk ⟨rfl, hg⟩
              have GC := Lib.hid (grown_then GC.out hg)
              clear hg
              dsimp only
              go_wp2
              go_roundw
              case rel => exact ⟨k + 1, by go_num, by omega, HP1.out, GC.out⟩
              case measure => simp [intOf]; omega
            · have q2 : (r != 0) = true := bne_iff_ne.2 h2
              clear HNX h0 h1 h2
              go_wp2_with fail
              refine (HX.out _).mono ?_
              rintro e wk ⟨rfl, hg⟩
              have GC := Lib.hid (grown_then GC.out hg)
              clear hg
              dsimp only
              go_wp2
              go_ret
              exact ⟨rfl, below_of (grown_then G1.out GC.out)⟩
          · have q1 : (x.k != kind) = true := bne_iff_ne.2 h1
            clear HNX h0 h1
            go_wp2
            go_ret
            exact ⟨rfl, below_of (grown_then G1.out GC.out)⟩
      · obtain rfl : k = n := by omega
        have HALL := Lib.hid (OkTo.all (l := l) (kind := kind) (by rw [HL.out]; exact HP.out))
        clear hlt hk HP
        obtain ⟨z, hz⟩ : ∃ z, z = ofZ l := ⟨_, rfl⟩
        have HO := Lib.hid (fun W (h : CSeg W a k cap l) => Of_any a k cap l W h (by omega))
        obtain ⟨m, hm⟩ : ∃ m, m = mayB z op c := ⟨_, rfl⟩
        have HM := Lib.hid (fun W => May_any z op c W)
        have HK := Lib.hid (fun W => Check_any z kind W)
        have HIS : Hid (∀ x ∈ l, isB op x c = true → m = true) := Lib.hid (fun x hx h => by rw [hm, hz]; exact may_cell l kind op x c hx (fun y hy => (HALL.out y hy).1) h)
        have HIN : Hid (∀ x ∈ l, x.k ≠ 0 → Le z.min x ∧ Le x z.max) := Lib.hid (fun x hx h => by rw [hz]; exact ((holds_of l).has x hx h).2)
        have HCK : Hid (1 ≤ kind ∧ kind ≤ 3 → checkE z kind = 0) := Lib.hid (fun h => by rw [hz]; exact check_of l kind h HALL.out)
        have hcnt : (z.cnt == (k : Int)) = true := by rw [hz, of_cnt, HL.out]; exact beq_self_eq_true _
        have HCNT := Lib.hid hcnt
        rw [← hz] at HO
        rw [← hm] at HM
        clear hz hm HALL hcnt
        go_wp2_with fail
        refine (HO.out _ (S1.out.old GC.out)).mono ?_
        rintro e w2 ⟨rfl, hg⟩
        have GC2 := Lib.hid (grown_then GC.out hg)
        clear hg HO GC
        dsimp only
        obtain ⟨c0, c1, c2⟩ := (C1.out.old GC2.out).cells
        have X2 := (C1.out.old GC2.out).lt
        go_wp2_with fail
        clear c0 c1 c2 X2
        obtain ⟨W3, hW3⟩ : ∃ W3, w2.alloc (.cells #[.int .i64 z.cnt, .int .i64 z.nul, .int .i64 z.min.k, .int .i64 z.min.n, .string z.min.s, .int .i64 z.max.k, .int .i64 z.max.n, .string z.max.s] 26) = W3 := ⟨_, rfl⟩
        have G3 : Hid (w.grownBy W3 none) := Lib.hid (by rw [← hW3]; exact grown_then G1.out (grown_then GC2.out (grown_alloc _ _)))
        have Z3 : Hid (ZB W3 w2.heap.size z) := Lib.hid (by rw [← hW3]; exact ZB.new w2 z)
        have C3 : Hid (CB W3 w.heap.size c) := Lib.hid (by rw [← hW3]; exact (C1.out.old GC2.out).old (grown_alloc _ _))
        have S3 : Hid (CSeg W3 a k cap l) := Lib.hid (by rw [← hW3]; exact (S1.out.old GC2.out).old (grown_alloc _ _))
        rw [hW3]
        clear hW3 GC2 C1 S1 G1
        generalize w2.heap.size = g at *
        obtain ⟨c0, c1, c2⟩ := C3.out.cells
        obtain ⟨z0, z1, ⟨z2, z3, z4⟩, z5, z6, z7⟩ := Z3.out.cells
        refine (HM.out _).mono ?_
        rintro e w4 ⟨rfl, hg⟩
        have G4 := Lib.hid (grown_then G3.out hg)
        have Z4 := Lib.hid (Z3.out.old hg)
        have C4 := Lib.hid (C3.out.old hg)
        have S4 := Lib.hid (S3.out.old hg)
        clear hg G3 Z3 C3 S3 HM c0 c1 c2 z0 z1 z2 z3 z4 z5 z6 z7
        dsimp only
        go_wp2
        go_loopw [12] (fun iv wx => ∃ j : Nat, iv = .int .i64 j ∧ j ≤ k ∧ w4.grownBy wx none) (fun iv _ => k - (intOf iv).toNat)
        case atStart => exact ⟨0, rfl, Nat.zero_le _, grown_refl _⟩
        case round =>
          obtain ⟨j, rfl, hj, hg⟩ := hrel
          have GC := Lib.hid hg
          clear hg
          have ZC := Lib.hid (Z4.out.old GC.out)
          have CC := Lib.hid (C4.out.old GC.out)
          by_cases hlt : j < k
          · obtain ⟨B, O, rfl, hcs⟩ := (S4.out.old GC.out).form (by omega)
            have hx3 := hcs j hlt
            have hmem : l.getD j zeroC ∈ l := getD_mem (by rw [HL.out]; exact hlt)
            obtain ⟨x, hx⟩ : ∃ x, x = l.getD j zeroC := ⟨_, rfl⟩
            rw [← hx] at hx3 hmem
            have XC := Lib.hid hx3
            have hq := HIS.out x hmem
            have hin := HIN.out x hmem
            clear hcs hx hx3 hmem HIS HIN HCK HCNT
            have HX := Lib.hid (fun W => Is_any op x c W)
            have H1 := Lib.hid (fun W => Compare_any x z.min W)
            have H2 := Lib.hid (fun W => Compare_any x z.max W)
            obtain ⟨q, hqq⟩ : ∃ q, q = isB op x c := ⟨_, rfl⟩
            obtain ⟨o1, ho1⟩ : ∃ o, o = cmpC x z.min := ⟨_, rfl⟩
            obtain ⟨o2, ho2⟩ : ∃ o, o = cmpC x z.max := ⟨_, rfl⟩
            have hb : x.k ≠ 0 → ¬ o1 < 0 ∧ ¬ 0 < o2 := fun h => by
              have h3 := hin h
              have h4 := cmpC_tot.anti x z.min
              unfold Le at h3
              omega
            rw [← hqq] at HX hq
            rw [← ho1] at H1
            rw [← ho2] at H2
            have HB := Lib.hid hb
            have HQ := Lib.hid hq
            clear hqq ho1 ho2 hin hb hq
            obtain ⟨x0, x1, x2⟩ := cells_gw XC.out
            obtain ⟨c0, c1, c2⟩ := CC.out.gw
            have hj0 : (0 : Int) ≤ (j : Int) := by omega
            have hjk : (j : Int) < (k : Int) := by omega
            cases q
            · go_wp2_with fail
              refine wp_region_grow (by kernel_rfl) ?_
              repeat (go_big_quiet_step (first | (go_at_call 15; exact Calls.grow_of (HX.out _)) | fail))
              refine wpQuiet_nil ?_
              rintro _ ⟨p, rfl⟩
              have GP := Lib.hid (grown_then GC.out p.grown)
              have XP := Lib.hid (show p.at_.cell? ⟨B, O + j * 3, none⟩ = some (.int .i64 x.k) ∧ p.at_.cell? ⟨B, O + j * 3 + 1, none⟩ = some (.int .i64 x.n) ∧ p.at_.cell? ⟨B, O + j * 3 + 2, none⟩ = some (.string x.s) from ⟨x0 p, x1 p, x2 p⟩)
              have ZP := Lib.hid (Z4.out.old GP.out)
              clear x0 x1 x2 c0 c1 c2
              generalize p.at_ = W5 at *
              clear p
              obtain ⟨x0, x1, x2⟩ := cells_gw XP.out
              obtain ⟨z0, z1, ⟨z2, z3, z4⟩, z5, z6, z7⟩ := ZP.out.gw
              by_cases h0 : x.k = 0
              · have q0 : (x.k != 0) = false := by rw [h0]; rfl
                clear h0
                go_wp2_with fail
                refine wp_region_grow (by kernel_rfl) ?_
                repeat (go_big_quiet_step (fail))
                refine wpQuiet_nil ?_
                rintro _ ⟨p, rfl⟩
                have GE := Lib.hid (grown_then GP.out p.grown)
                go_wp2
                go_roundw
                case rel => exact ⟨j + 1, by go_num, by omega, GE.out⟩
                case measure => simp [intOf]; omega
              · have q0 : (x.k != 0) = true := bne_iff_ne.2 h0
                have d1 : decide (o1 < 0) = false := decide_eq_false (by have := (HB.out h0).1; omega)
                have d2 : decide (0 < o2) = false := decide_eq_false (by have := (HB.out h0).2; omega)
                clear h0
                go_wp2_with fail
                refine wp_region_grow (by kernel_rfl) ?_
                repeat (go_big_quiet_step (first | (go_at_call 14; exact Calls.grow_of (H1.out _)) | (go_at_call 14; exact Calls.grow_of (H2.out _)) | fail))
                refine wpQuiet_nil ?_
                rintro _ ⟨p, rfl⟩
                have GE := Lib.hid (grown_then GP.out p.grown)
                go_wp2
                go_roundw
                case rel => exact ⟨j + 1, by go_num, by omega, GE.out⟩
                case measure => simp [intOf]; omega
            · obtain rfl : m = true := HQ.out rfl
              go_wp2_with fail
              refine wp_region_grow (by kernel_rfl) ?_
              repeat (go_big_quiet_step (first | (go_at_call 15; exact Calls.grow_of (HX.out _)) | fail))
              refine wpQuiet_nil ?_
              rintro _ ⟨p, rfl⟩
              have GP := Lib.hid (grown_then GC.out p.grown)
              have XP := Lib.hid (show p.at_.cell? ⟨B, O + j * 3, none⟩ = some (.int .i64 x.k) ∧ p.at_.cell? ⟨B, O + j * 3 + 1, none⟩ = some (.int .i64 x.n) ∧ p.at_.cell? ⟨B, O + j * 3 + 2, none⟩ = some (.string x.s) from ⟨x0 p, x1 p, x2 p⟩)
              have ZP := Lib.hid (Z4.out.old GP.out)
              clear x0 x1 x2 c0 c1 c2
              generalize p.at_ = W5 at *
              clear p
              obtain ⟨x0, x1, x2⟩ := cells_gw XP.out
              obtain ⟨z0, z1, ⟨z2, z3, z4⟩, z5, z6, z7⟩ := ZP.out.gw
              by_cases h0 : x.k = 0
              · have q0 : (x.k != 0) = false := by rw [h0]; rfl
                clear h0
                go_wp2_with fail
                refine wp_region_grow (by kernel_rfl) ?_
                repeat (go_big_quiet_step (fail))
                refine wpQuiet_nil ?_
                rintro _ ⟨p, rfl⟩
                have GE := Lib.hid (grown_then GP.out p.grown)
                go_wp2
                go_roundw
                case rel => exact ⟨j + 1, by go_num, by omega, GE.out⟩
                case measure => simp [intOf]; omega
              · have q0 : (x.k != 0) = true := bne_iff_ne.2 h0
                have d1 : decide (o1 < 0) = false := decide_eq_false (by have := (HB.out h0).1; omega)
                have d2 : decide (0 < o2) = false := decide_eq_false (by have := (HB.out h0).2; omega)
                clear h0
                go_wp2_with fail
                refine wp_region_grow (by kernel_rfl) ?_
                repeat (go_big_quiet_step (first | (go_at_call 14; exact Calls.grow_of (H1.out _)) | (go_at_call 14; exact Calls.grow_of (H2.out _)) | fail))
                refine wpQuiet_nil ?_
                rintro _ ⟨p, rfl⟩
                have GE := Lib.hid (grown_then GP.out p.grown)
                go_wp2
                go_roundw
                case rel => exact ⟨j + 1, by go_num, by omega, GE.out⟩
                case measure => simp [intOf]; omega
          · obtain rfl : j = k := by omega
            have hcnt := HCNT.out
            obtain ⟨z0, z1, ⟨z2, z3, z4⟩, z5, z6, z7⟩ := ZC.out.cells
            clear HIS HIN hlt HCNT
            by_cases h1 : kind < 1
            · clear HCK
              go_wp2
              go_ret
              exact ⟨rfl, below_of (grown_then G4.out GC.out)⟩
            · by_cases h2 : 3 < kind
              · clear HCK
                go_wp2
                go_ret
                exact ⟨rfl, below_of (grown_then G4.out GC.out)⟩
              · have HK2 := HK
                rw [HCK.out ⟨by omega, by omega⟩] at HK2
                clear HCK HK
                go_wp2_with fail
                refine (HK2.out _).mono ?_
                rintro e w9 ⟨rfl, hg⟩
                have G9 := Lib.hid (grown_then (grown_then G4.out GC.out) hg)
                clear hg
                dsimp only
                go_wp2
                go_ret
                exact ⟨rfl, below_of G9.out⟩
end Go.Proofs.Ytpincfofnlfjiaa.Zn
