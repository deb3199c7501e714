/- Parts of the proof. -/
import Derived.Test.YtbbbocoliandcaaGreatDoorKqi
set_option maxRecDepth 100000
set_option maxHeartbeats 8000000
open Go.Lib (hid)
namespace Go.Proofs.YtbbbocoliandcaaGreatDoor
namespace Sp
open Go.RowKit Bs Dv Gr
open Su (Sup SupOk GeoOk supE T4)
def badP(s:SpS)(l:List Int)(j:Nat):Bool:=(l.take j).any fun k=>decide (s.now.getD k.toNat 0=0) || decide (k<2)
theorem Qi4(s:SpS){l:List Int}{j:Nat}(hj:j<l.length):badP s l (j+1)=(badP s l j || (decide (s.now.getD (l.getD j 0).toNat 0=0) || decide (l.getD j 0<2))):=by
 unfold badP;have e:l.getD j 0=l[j]:=by rw[List.getD_eq_getElem?_getD,List.getElem?_eq_getElem hj];rfl
 rw[e,List.take_succ_eq_append_getElem hj,List.any_append];simp
theorem Qkn{s:SpS}{p:Pg}(h:badP s p.kids p.kids.length=true∨p.tag<3):∃E,putErr s p=E∧E≠0∧(E=2∨E=8):=by
 have hc:checkE s p≠0∧(checkE s p=2∨checkE s p=8):=by
  unfold checkE;by_cases q1:p.tag<3∨65535<p.kids.length
  ·rw[if_pos q1];exact⟨by decide,.inl rfl⟩
  ·rw[if_neg q1];by_cases q2:∀j,j<p.kids.length→accE s (p.kids.getD j 0).toNat=0
   ·rw[if_pos q2];by_cases q3:∀j,j<p.kids.length→useE s (p.kids.getD j 0).toNat=0
    ·exfalso
     rcases h with h|h
     ·unfold badP at h;rw[List.take_length,List.any_eq_true]at h;obtain⟨k,hk,hb⟩:=h;obtain⟨j,hj,rfl⟩:=List.getElem_of_mem hk;have a1:=q2 j hj;have a2:=q3 j hj;rw[List.getD_eq_getElem?_getD,List.getElem?_eq_getElem hj]at a1 a2;rw[Bool.or_eq_true,decide_eq_true_iff,decide_eq_true_iff]at hb;obtain⟨u1,u2,u3,u4⟩:=Qev a2;rcases hb with z|z
      ·exact u4 z
      ·have u1:2≤(p.kids[j]).toNat:=u1;omega
     ·exact q1 (.inl h)
    ·rw[if_neg q3];exact⟨by decide,.inr rfl⟩
   ·rw[if_neg q2];exact⟨by decide,.inl rfl⟩
 refine⟨checkE s p,?_,hc⟩;unfold putErr;rw[if_pos hc.1]
open Dr
def SR18A:List Nat:=[91,92,93,94,95,96,97,98,99,100,101,102,103,104,105,106,107,108,109,110,111,112,15]
theorem Qp:SR18A.Nodup:=by decide +kernel
def VR18A(rg sg gk ok j k m2 c2 wz:Nat)(v:Int)(_g:Nat):List Value:=[.bool false,.bool false,.pointer (some ⟨rg,0,none⟩),.pointer (some ⟨rg,0,none⟩),.pointer (some ⟨rg,1,none⟩),.pointer (some ⟨sg,0,none⟩),.pointer (some ⟨wz+1,1,none⟩),.slice (some ⟨gk,ok,none⟩) m2 c2,.int .i64 (j:Int),.pointer (some ⟨gk,ok+j,none⟩),.int .u32 (k:Int),.int .i64 v,.bool true,.bool true,.bool true,undef,undef,undef,undef,undef,undef,.bool true,.bool true]
def SR18B:List Nat:=[91,92,93,94,95,96,97,98,99,100,101,102,103,104,105,106,107,108,109,110,111,112,15]
theorem Qq:SR18B.Nodup:=by decide +kernel
def VR18B(rg sg gk ok j k m2 c2 wz:Nat)(v:Int)(b2:Bool)(_g:Nat):List Value:=[.bool false,.bool false,.pointer (some ⟨rg,0,none⟩),.pointer (some ⟨rg,0,none⟩),.pointer (some ⟨rg,1,none⟩),.pointer (some ⟨sg,0,none⟩),.pointer (some ⟨wz+1,1,none⟩),.slice (some ⟨gk,ok,none⟩) m2 c2,.int .i64 (j:Int),.pointer (some ⟨gk,ok+j,none⟩),.int .u32 (k:Int),.int .i64 v,.bool false,.bool false,.bool false,.pointer (some ⟨wz+1,1,none⟩),.slice (some ⟨gk,ok,none⟩) m2 c2,.int .i64 (j:Int),.pointer (some ⟨gk,ok+j,none⟩),.int .u32 (k:Int),.bool b2,.bool b2,.bool b2]
theorem refused_any (size blocks : Int) (a1 : Option Addr) (n c : Nat) (l : List AcT) (p : Pg) (a2 : Option Addr) (c2 : Nat) (z : Nat) (w : World) (hs : AcSeg w a1 n c l) (hi : ∀ x ∈ l, AcIn x) (ho : PgOk p) (hs2 : Ws.Seg w a2 p.kids.length c2 p.kids) (hz : z < 4294967296) (hT4 : T4 w) :
    Calls Tryz.prog 5 #[.agg #[.int .i64 size, .int .i64 blocks], .slice a1 n c, .agg #[.int .u8 p.tag, .slice a2 p.kids.length c2, .string (strOfNums p.data)], .int .u32 (z : Int)] w fun e w' => e = .returned (.bool true) ∧ w.grownBy w' none := by
  have B0 := heap_alloc_new w (.cells #[.int .i64 size, .int .i64 blocks] 28)
  have G0 := Qb          w (.cells #[.int .i64 size, .int .i64 blocks] 28)
  obtain ⟨WG, hWG⟩ : ∃ X, w.alloc (.cells #[.int .i64 size, .int .i64 blocks] 28) = X := ⟨_, rfl⟩
  rw [hWG] at B0 G0
  have hzG : WG.heap.size = w.heap.size + 1 := by rw [← hWG]; simp
  have HWG := Lib.hid hWG
  obtain ⟨t2, m2, S2, e1, e2, e3⟩ : ∃ t m S, p.tag = t ∧ p.kids.length = m ∧ strOfNums p.data = S := ⟨_, _, _, rfl, rfl, rfl⟩
  rw [e1, e2, e3]
  rw [e2] at hs2
  have HPV : Hid (p.tag = t2 ∧ p.kids.length = m2 ∧ strOfNums p.data = S2) := Lib.hid ⟨e1, e2, e3⟩
  have HPO := Lib.hid ho
  have BP := heap_alloc_new WG (.cells #[.int .u8 t2, .slice a2 m2 c2, .string S2] 40)
  have GP := Qb          WG (.cells #[.int .u8 t2, .slice a2 m2 c2, .string S2] 40)
  have B0 := Qk        B0 GP
  have G0 := Qa         G0 GP
  obtain ⟨W0, hW0⟩ : ∃ X, WG.alloc (.cells #[.int .u8 t2, .slice a2 m2 c2, .string S2] 40) = X := ⟨_, rfl⟩
  rw [hW0] at BP B0 G0
  rw [hzG] at BP
  have HBP := Lib.hid BP
  have HSP := Lib.hid (fun W (k : W0.grownBy W none) => hs2.grown (Qa         G0 k))
  have hS2 : S2.size = p.data.length := by rw [← e3, strOfNums_size]
  have HS2 := Lib.hid hS2
  have HB0 := Lib.hid B0
  have HG0 := Lib.hid G0
  have HW0 := Lib.hid hW0
  have HT40 := Lib.hid (hT4.grown G0)
  have HLV := Lib.hid (Qcv         W0 HT40.out)
  have HLG := Lib.hid (fun W => Cn.Qdj          size blocks W)
  have HLI := Lib.hid (fun W (k : W0.grownBy W none) => Qdi       a1 n c l W (hs.old (Qa         G0 k)) hi)
  have HSEG := Lib.hid (fun W (k : W0.grownBy W none) => hs.old (Qa         G0 k))
  have HIN := Lib.hid hi
  have HLN := Lib.hid hs.len
  have HZZ := Lib.hid hz
  clear B0 G0 BP GP hW0 hWG hzG hs hi ho hs2 hz hT4 e1 e2 e3 hS2
  go_enter Tryz.func5, Tryz.ntmps5
  go_upto_region 1 with fail
  rw [HWG.out, HW0.out]
  go_wp2_with fail
  refine HLV.out.mono ?_
  rintro e w1 ⟨rfl, hg⟩
  have HG1 := Lib.hid hg
  have HB1 := Lib.hid (Qk        HB0.out hg)
  have c0 : w1.cell? ⟨w.heap.size, 0, none⟩ = some (.int .i64 size) := by rw [cell_of_row _ _ _ _ _ _ HB1.out]; rfl
  have c1 : w1.cell? ⟨w.heap.size, 1, none⟩ = some (.int .i64 blocks) := by rw [cell_of_row _ _ _ _ _ _ HB1.out]; rfl
  clear hg HLV
  dsimp only
  obtain ⟨lg, hlg⟩ : ∃ b, Cn.LightS size blocks = b := ⟨_, rfl⟩
  rw [hlg] at HLG
  have HLGE := Lib.hid hlg
  clear hlg
  go_wp2_with fail
  refine (HLG.out _).mono ?_
  rintro e w2 ⟨rfl, hg⟩
  have HG2 := Lib.hid (Qa         HG1.out hg)
  have HB2 := Lib.hid (Qk        HB1.out hg)
  have HLI2 := Lib.hid (HLI.out w2 HG2.out)
  clear hg c0 c1 HLG HLI
  cases lg with
  | false =>
    have HE := Lib.hid (Qa         HG0.out HG2.out)
    go_wp2
    go_ret
    exact ⟨rfl, HE.out⟩
  | true =>
  obtain ⟨lb, hlb⟩ : ∃ b, lightB l = b := ⟨_, rfl⟩
  rw [hlb] at HLI2
  have HLB := Lib.hid hlb
  clear hlb
  dsimp only
  go_wp2_with fail
  refine HLI2.out.mono ?_
  rintro e w3 ⟨rfl, rfl⟩
  cases lb with
  | false =>
    have HE := Lib.hid (Qa         HG0.out HG2.out)
    go_wp2
    go_ret
    exact ⟨rfl, HE.out⟩
  | true =>
  have c0 : w2.cell? ⟨w.heap.size, 0, none⟩ = some (.int .i64 size) := by rw [cell_of_row _ _ _ _ _ _ HB2.out]; rfl
  have c1 : w2.cell? ⟨w.heap.size, 1, none⟩ = some (.int .i64 blocks) := by rw [cell_of_row _ _ _ _ _ _ HB2.out]; rfl
  obtain ⟨-, d1, d2⟩ := QaK      (Qk        HBP.out HG2.out)
  by_cases hk40 : m2 ≤ 40
  case neg =>
    have q40 : decide ((40 : Int) < (m2 : Int)) = true := decide_eq_true (by omega)
    have HE := Lib.hid (Qa         HG0.out HG2.out)
    clear hk40
    go_wp2
    go_ret
    exact ⟨rfl, HE.out⟩
  case pos =>
  have q40 : decide ((40 : Int) < (m2 : Int)) = false := decide_eq_false (by omega)
  have HK40 := Lib.hid hk40
  clear hk40
  by_cases hd600 : S2.size ≤ 600
  case neg =>
    have q600 : decide ((600 : Int) < (S2.size : Int)) = true := decide_eq_true (by omega)
    have HE := Lib.hid (Qa         HG0.out HG2.out)
    clear hd600
    go_wp2
    go_ret
    exact ⟨rfl, HE.out⟩
  case pos =>
  have q600 : decide ((600 : Int) < (S2.size : Int)) = false := decide_eq_false (by omega)
  have HD600 := Lib.hid hd600
  clear hd600
  by_cases hok : GeoOk size blocks
  case neg =>
    have HBN := Lib.hid (Qfw      size blocks w2 hok)
    clear hok
    go_wp2_with fail
    refine HBN.out.mono ?_
    rintro e w3 ⟨rfl, hg⟩
    have HE := Lib.hid (Qa         HG0.out (Qa         HG2.out hg))
    clear hg c0 c1
    dsimp only
    go_wp2
    go_ret
    exact ⟨rfl, HE.out⟩
  case pos =>
  obtain ⟨K, rfl⟩ : ∃ K : Nat, blocks = K := Int.eq_ofNat_of_zero_le (by unfold GeoOk at hok; omega)
  obtain ⟨Z, rfl⟩ : ∃ Z : Nat, size = Z := Int.eq_ofNat_of_zero_le (by unfold GeoOk at hok; omega)
  have hsk := Cn.Qe9       HLGE.out hok
  have HSK : Hid (Z ≤ 512 ∧ K ≤ 40) := Lib.hid (by omega)
  have hN60 : n ≤ 60 := by
    have h1 := HLB.out
    unfold lightB at h1
    rw [Bool.and_eq_true] at h1
    have h2 := of_decide_eq_true h1.2
    have h3 := HLN.out
    omega
  have HOKA : Hid (∀ i, i < n → AcOk (l.getD i default)) := Lib.hid (fun i hi2 => by
    have h1 := HLB.out
    unfold lightB at h1
    rw [Bool.and_eq_true] at h1
    have h2 := of_decide_eq_true h1.1 i (by rw [HLN.out]; exact hi2)
    refine (HIN.out _ ?_).ok h2
    have hl2 : i < l.length := by rw [HLN.out]; exact hi2
    rw [List.getD_eq_getElem?_getD, List.getElem?_eq_getElem hl2]
    exact List.getElem_mem hl2)
  have HGE := Lib.hid hok
  have HBG := Lib.hid (Qfx      W0 w2 Z K HG2.out hok (Qat         hok hsk.2) HT40.out)
  have HRK : Hid (RnOk (firstR' Z K) 0) := Lib.hid (QeZ       hok (Qat         hok hsk.2))
  have HDM : Hid ((firstR' Z K).s.dv.size = Z ∧ (firstR' Z K).s.dv.blocks = K) := Lib.hid (by obtain ⟨g1, g2, -, -⟩ := QbP       hok (Qat         hok hsk.2); exact ⟨g1, g2⟩)
  clear hok hsk
  go_wp2_with fail
  refine HBG.out.mono ?_
  rintro e w3 ⟨rg, sg0, dg, rfl, hr, -⟩
  have HR3 := Lib.hid hr
  clear hr c0 c1 d1 d2 q40 q600 HBG HLI2
  dsimp only
  go_wp2
  go_loopw [10] (fun si wr => ∃ (i sg : Nat) (r : Rn), i ≤ n ∧ si = .int .i64 (i : Int) ∧ Hid (Rs W0 wr rg sg dg (fun _ => False) r) ∧ Hid (RnOk r i) ∧ Hid (r.s.dv.size = Z ∧ r.s.dv.blocks = K)) (fun si _ => n - (intOf si).toNat)
  case atStart => exact ⟨0, sg0, _, Nat.zero_le _, rfl, HR3, HRK, HDM⟩
  case round =>
  clear HR3 HRK HDM
  obtain ⟨i, sg, r, hin, rfl, HR, HK, HD⟩ := hrel
  by_cases hlt : i < n
  case pos =>
    have hq : decide (i < n) = true := decide_eq_true hlt
    obtain ⟨B, O, rfl, hat⟩ := (HSEG.out wr HR.out.gr).form (by omega)
    obtain ⟨b0, b1, b2, b3, b4⟩ := hat i hlt
    have p0 : (0 : Int) ≤ (i : Int) := by omega
    have p1 : (i : Int) < (n : Int) := by omega
    have HDO := Lib.hid (rs_do HR.out HK.out (by omega) _ (HOKA.out i hlt) HT40.out)
    obtain ⟨x, hx⟩ : ∃ x, l.getD i default = x := ⟨_, rfl⟩
    rw [hx] at b0 b1 b2 b3 b4 HDO
    have HDO2 : Hid (Calls Tryz.prog 39 #[.pointer (some ⟨rg, 0, none⟩), .agg #[.int .i64 x.kind, .int .u8 x.tag, .int .i64 x.kids, .int .i64 x.n, .string (strOfNums x.data)]] wr (DoS W0 wr rg dg (fun _ => False) r x i)) := HDO
    obtain ⟨k0, k1, k2, k3, k4, e0, e1, e2, e3, e4⟩ : ∃ k0 k1 k2 k3 k4, x.kind = k0 ∧ x.tag = k1 ∧ x.kids = k2 ∧ x.n = k3 ∧ strOfNums x.data = k4 := ⟨_, _, _, _, _, rfl, rfl, rfl, rfl, rfl⟩
    rw [e0, e1, e2, e3, e4] at HDO2
    rw [e0] at b0
    rw [e1] at b1
    rw [e2] at b2
    rw [e3] at b3
    rw [e4] at b4
    clear e0 e1 e2 e3 e4 hx hat HDO
    go_wp2_with fail
    refine HDO2.out.mono ?_
    rintro e w4 ⟨n4, er, r4, sg4, rfl, hd4, hk4, hr4, -⟩
    have HD4 : Hid (r4.s.dv.size = Z ∧ r4.s.dv.blocks = K) := Lib.hid (by have h1 := hd4.dims HK.out (by omega); have h2 := HD.out; omega)
    have HR4 := Lib.hid hr4
    have HK4 := Lib.hid hk4
    clear hr4 hk4 hd4 b0 b1 b2 b3 b4 HR HK HD HDO2
    dsimp only
    go_wp2
    go_roundw
    case rel => exact ⟨i + 1, sg4, r4, by omega, by go_num, HR4, HK4, HD4⟩
    case measure => simp [intOf]; omega
  case neg =>
  have hq : decide (i < n) = false := decide_eq_false hlt
  obtain rfl : i = n := by omega
  clear hlt hin
  obtain ⟨hsh, hrc⟩ := HR.out.sh
  have HSH : Hid (Sh W0 wr sg dg (fun k => k = rg) r.s) := Lib.hid (hsh.less (fun k e => .inr e))
  have HRC : Hid (wr.cell? ⟨rg, 0, none⟩ = some (.pointer (some ⟨dg, 0, none⟩)) ∧ wr.cell? ⟨rg, 1, none⟩ = some (.pointer (some ⟨sg, 0, none⟩))) := Lib.hid HR.out.cell
  have HOKS := Lib.hid HK.out.sp
  obtain ⟨own0, hown0, mown0, e1, e2, e3⟩ : ∃ o h m, r.own = o ∧ r.hown = h ∧ r.mown = m := ⟨_, _, _, rfl, rfl, rfl⟩
  rw [e1, e2, e3] at HOKS
  obtain ⟨s, e4⟩ : ∃ s, r.s = s := ⟨_, rfl⟩
  rw [e4] at HSH HOKS
  have HPGL : Hid (s.sup.pages.length ≤ 100000) := Lib.hid (by have := HOKS.out.QW       ; omega)
  obtain ⟨cz, hcz⟩ : ∃ v, s.now.getD z 0 = v := ⟨_, rfl⟩
  obtain ⟨fr, hfr⟩ : ∃ v, (frees s).length = v := ⟨_, rfl⟩
  obtain ⟨IM, hIM⟩ : ∃ v, strOfNums s.dv.dur.flatten = v := ⟨_, rfl⟩
  obtain ⟨pd, hpd⟩ : ∃ v, s.dv.pend.length = v := ⟨_, rfl⟩
  have HCT : Hid (∀ W, Sh W0 W sg dg (fun k => k = rg) s → Calls Tryz.prog 23 #[.pointer (some ⟨sg, 0, none⟩), .int .u32 (z : Int)] W fun e w' => e = .returned (.int .i64 cz) ∧ W = w') := Lib.hid (fun W h => by
    have h1 := Qbg      h z HZZ.out
    rw [hcz] at h1
    exact h1)
  have HFR : Hid (∀ W, Sh W0 W sg dg (fun k => k = rg) s → Calls Tryz.prog 20 #[.pointer (some ⟨sg, 0, none⟩)] W fun e w' => e = .returned (.int .i64 (fr : Int)) ∧ W = w') := Lib.hid (fun W h => QbC     h hfr)
  have HIM : Hid (∀ W, Sh W0 W sg dg (fun k => k = rg) s → Calls Tryz.prog 52 #[.pointer (some ⟨dg, 0, none⟩)] W fun e w' => e = .returned (.string IM) ∧ W = w') := Lib.hid (fun W h => by
    have h1 := Qj0      h
    rw [hIM] at h1
    exact h1)
  have HPD : Hid (∀ W, Sh W0 W sg dg (fun k => k = rg) s → Calls Tryz.prog 55 #[.pointer (some ⟨dg, 0, none⟩)] W fun e w' => ∃ a c, e = .returned (.slice a pd c) ∧ W.grownBy w' none) := Lib.hid (fun W h => by
    have h1 := QhN        h
    rw [hpd] at h1
    exact h1)
  have HCZ := Lib.hid hcz
  clear hsh hrc e1 e2 e3 e4 hcz hfr hIM hpd HR HK HD HSEG HIN HLN HLB HLGE HOKA HG1 HB1 HG2 HB2 HB0 HW0 HWG HGE
  have d1 := HRC.out.2
  have d0 := HRC.out.1
  have HC1 := Lib.hid (HCT.out _ (HSH.out.go (Qg         wr)))
  have HF1 := Lib.hid (HFR.out _ (HSH.out.go (Qg         wr)))
  go_upto_region 12 with fail
  go_region_held3 (fun w' => w'.cell? ⟨rg, 1, none⟩ = some (.pointer (some ⟨sg, 0, none⟩))) (go_keep)
    (first
      | (go_at_call 23
         (with_reducible refine HC1.out.mono ?_)
         rintro e w5 ⟨rfl, rfl⟩)
      | (go_at_call 20
         (with_reducible refine HF1.out.mono ?_)
         rintro e w5 ⟨rfl, rfl⟩)
      | fail)
  have HG5 := Lib.hid (Qg         wr)
  obtain ⟨V1, hV1⟩ : ∃ V, wr.drew = V := ⟨_, rfl⟩
  rw [hV1] at HG5 ⊢
  have HS1 := Lib.hid (HSH.out.go HG5.out)
  have HRC1 : Hid (V1.cell? ⟨rg, 0, none⟩ = some (.pointer (some ⟨dg, 0, none⟩)) ∧ V1.cell? ⟨rg, 1, none⟩ = some (.pointer (some ⟨sg, 0, none⟩))) := Lib.hid ⟨(Qd         HG5.out).cell d0 id, (Qd         HG5.out).cell d1 id⟩
  clear hV1 d0 d1 HC1 HF1 HSH HRC HG5
  have d0 := HRC1.out.1
  have HI2 := Lib.hid (fun W (k : V1.grownBy W none) => HIM.out W (HS1.out.go k))
  have HP2 := Lib.hid (fun W (k : V1.grownBy W none) => HPD.out W (HS1.out.go k))
  go_upto_region 13 with fail
  go_region_held3 (fun w' => w'.cell? ⟨rg, 0, none⟩ = some (.pointer (some ⟨dg, 0, none⟩))) (go_keep)
    (first
      | (go_at_call 52
         (with_reducible refine (HI2.out _ (Qg         V1)).mono ?_)
         rintro e w5 ⟨rfl, rfl⟩)
      | (go_at_call 55
         (with_reducible refine (HP2.out _ (Qg         V1)).mono ?_)
         rintro e w6 ⟨pa, pc, rfl, hg6⟩
         have HG6 := Lib.hid (Qa         (Qg         V1) hg6)
         have k0 := (Qd         HG6.out).cell d0 id
         clear hg6)
      | fail)
  have HS6 := Lib.hid (HS1.out.go HG6.out)
  have HRC6 : Hid (w6.cell? ⟨rg, 0, none⟩ = some (.pointer (some ⟨dg, 0, none⟩)) ∧ w6.cell? ⟨rg, 1, none⟩ = some (.pointer (some ⟨sg, 0, none⟩))) := Lib.hid ⟨(Qd         HG6.out).cell HRC1.out.1 id, (Qd         HG6.out).cell HRC1.out.2 id⟩
  clear d0 k0 HI2 HP2 HS1 HRC1 HG6
  obtain ⟨V6, hV6⟩ : ∃ V, w6 = V := ⟨_, rfl⟩
  rw [hV6] at HS6 HRC6 ⊢
  clear hV6
  go_wp2
  go_loopw [15, 16] (fun sb si wx => ∃ j : Nat, j ≤ m2 ∧ sb = .bool (badP s p.kids j) ∧ si = .int .i64 (j : Int) ∧ Hid (V6.grownBy wx none)) (fun _ si _ => m2 - (intOf si).toNat)
  case atStart => exact ⟨0, Nat.zero_le _, rfl, rfl, Lib.hid (Qy         _)⟩
  case round =>
  obtain ⟨j, hjm, rfl, rfl, HGR⟩ := hrel
  have hm40 : m2 ≤ 40 := HK40.out
  have HSR := Lib.hid (HS6.out.go HGR.out)
  obtain ⟨x0, x1, x2⟩ := QaK      (Qk        HBP.out HSR.out.gr)
  by_cases hlt : j < m2
  case pos =>
    have hq : decide (j < m2) = true := decide_eq_true hlt
    have hj2 : j < p.kids.length := by rw [HPV.out.2.1]; exact hlt
    have HBS := Lib.hid (Qi4      s hj2)
    obtain ⟨gk, ok, rfl, hat⟩ := (HSP.out wr HSR.out.gr).addr (by omega)
    have hk := hat j hlt
    have hkb := HPO.out.kids (p.kids.getD j 0) (by rw [List.getD_eq_getElem?_getD, List.getElem?_eq_getElem hj2]; exact List.getElem_mem hj2)
    obtain ⟨k, hkk⟩ : ∃ k : Nat, p.kids.getD j 0 = (k : Int) := Int.eq_ofNat_of_zero_le hkb.1
    rw [hkk] at hk hkb HBS
    rw [Int.toNat_natCast] at HBS
    have HCK := Lib.hid (fun W (q : wr.grownBy W none) => Qbg      (HSR.out.go q) k (by omega))
    obtain ⟨v, hv⟩ : ∃ v, s.now.getD k 0 = v := ⟨_, rfl⟩
    rw [hv] at HBS HCK
    have HRCR : Hid (wr.cell? ⟨rg, 1, none⟩ = some (.pointer (some ⟨sg, 0, none⟩))) := Lib.hid ((Qd         HGR.out).cell HRC6.out.2 id)
    have d1 := HRCR.out
    have p0 : (0 : Int) ≤ (j : Int) := by omega
    have p1 : (j : Int) < (m2 : Int) := by omega
    obtain ⟨B, hB⟩ : ∃ B, badP s p.kids j = B := ⟨_, rfl⟩
    rw [hB] at HBS ⊢
    clear hB hv hkk hkb hat hj2
    cases B with
    | true =>
      have HB1 : Hid (badP s p.kids (j + 1) = true) := Lib.hid (by rw [HBS.out]; rfl)
      go_upto_region 18 with fail
      go_quiet (fail)
      go_wp2
      go_roundw
      case rel => exact ⟨j + 1, by omega, by rw [HB1.out], by go_num, Lib.hid (Qa         HGR.out (Turn.drewN wr nq nowhere).grown)⟩
      case measure => simp [intOf]; omega
    | false =>
      by_cases hv0 : v = 0
      · have qv : (v == 0) = true := beq_iff_eq.2 hv0
        have HB1 : Hid (badP s p.kids (j + 1) = true) := Lib.hid (by rw [HBS.out, decide_eq_true hv0]; rfl)
        clear hv0
        go_upto_region 18 with fail
        refine QD               (I := fun a0 LL X W => EL SR18A (VR18A rg sg gk ok j k m2 c2 w.heap.size v) 73 (fun _ _ => True) 22 0 wr a0 LL X W) (by kernel_rfl) (by kernel_rfl)
          (EL.start 113 (by simp) (by decide) (Qg         _) (fun _ _ _ _ _ => trivial)) ?_ ?_
        · show ∀ i, i < 23 → _
          refine Qc       (Qc       (Qc       (Qc       (Qc       (Qc       (Qc       (Qc       (Qc       (Qc       (Qc       (Qc       (Qc       (Qc       (Qc       (Qc       (Qc       (Qc       (Qc       (Qc       (Qc       (Qc       (Qc       all_nil ?r0) ?r1) ?r2) ?r3) ?r4) ?r5) ?r6) ?r7) ?r8) ?r9) ?r10) ?r11) ?r12) ?r13) ?r14) ?r15) ?r16) ?r17) ?r18) ?r19) ?r20) ?r21) ?r22
          case r0 =>
            refine StepAt.mk rfl (ns := []) (by kernel_rfl) rfl ?_
            intro LL X W h0 hn hI
            have e15 : X.tmps[15]?.getD undef = .bool false := hI.first (by decide) h0
            refine Qe       (v := .bool false) ?_ (hI.yield Qp          0 (by decide) (by decide) (fun e => absurd e (by decide)) (fun _ => rfl))
            simp [go_sem, e15]
          case r1 =>
            refine StepAt.mk rfl (ns := [0]) (by kernel_rfl) rfl ?_
            intro LL X W h0 hn hI
            have e91 : X.tmps[91]?.getD undef = .bool false := hI.get 0 (by decide) (fun _ => rfl) (hn 0 (by decide))
            refine Qe       (v := .bool false) ?_ (hI.yield Qp          1 (by decide) (by decide) (fun e => absurd e (by decide)) (fun _ => rfl))
            simp [go_sem, e91]
          case r2 =>
            refine StepAt.mkf rfl (ns := [1]) (by kernel_rfl) 1 92 false rfl (by kernel_rfl) (fun LL X W hn hI => hI.get 1 (by decide) (fun _ => rfl) (hn 1 (by decide))) ?_
            intro LL X W h0 hn hI
            have e9 : X.tmps[9]?.getD undef = .pointer (some ⟨rg, 0, none⟩) := hI.old 9 (by decide)
            refine Qe       (v := .pointer (some ⟨rg, 0, none⟩)) ?_ (hI.yield Qp          2 (by decide) (by decide) (fun e => absurd e (by decide)) (fun _ => rfl))
            simp [go_sem, e9]
          case r3 =>
            refine StepAt.mkf rfl (ns := [2, 1]) (by kernel_rfl) 1 92 false rfl (by kernel_rfl) (fun LL X W hn hI => hI.get 1 (by decide) (fun _ => rfl) (hn 1 (by decide))) ?_
            intro LL X W h0 hn hI
            have e93 : X.tmps[93]?.getD undef = .pointer (some ⟨rg, 0, none⟩) := hI.get 2 (by decide) (fun _ => rfl) (hn 2 (by decide))
            refine Qe       (v := .pointer (some ⟨rg, 0, none⟩)) ?_ (hI.yield Qp          3 (by decide) (by decide) (fun e => absurd e (by decide)) (fun _ => rfl))
            simp [go_sem, e93]
          case r4 =>
            refine StepAt.mkf rfl (ns := [3, 1]) (by kernel_rfl) 1 92 false rfl (by kernel_rfl) (fun LL X W hn hI => hI.get 1 (by decide) (fun _ => rfl) (hn 1 (by decide))) ?_
            intro LL X W h0 hn hI
            have e94 : X.tmps[94]?.getD undef = .pointer (some ⟨rg, 0, none⟩) := hI.get 3 (by decide) (fun _ => rfl) (hn 3 (by decide))
            refine Qe       (v := .pointer (some ⟨rg, 1, none⟩)) ?_ (hI.yield Qp          4 (by decide) (by decide) (fun e => absurd e (by decide)) (fun _ => rfl))
            simp [go_sem, e94]
          case r5 =>
            refine StepAt.mkf rfl (ns := [4, 1]) (by kernel_rfl) 1 92 false rfl (by kernel_rfl) (fun LL X W hn hI => hI.get 1 (by decide) (fun _ => rfl) (hn 1 (by decide))) ?_
            intro LL X W h0 hn hI
            have e95 : X.tmps[95]?.getD undef = .pointer (some ⟨rg, 1, none⟩) := hI.get 4 (by decide) (fun _ => rfl) (hn 4 (by decide))
            have hG := hI.grown
            have c0 := (Qd         hG).cell d1 id
            refine Qe       (v := .pointer (some ⟨sg, 0, none⟩)) ?_ (hI.yield Qp          5 (by decide) (by decide) (fun e => absurd e (by decide)) (fun _ => rfl))
            simp [go_sem, e95, c0]
          case r6 =>
            refine StepAt.mkf rfl (ns := [1]) (by kernel_rfl) 1 92 false rfl (by kernel_rfl) (fun LL X W hn hI => hI.get 1 (by decide) (fun _ => rfl) (hn 1 (by decide))) ?_
            intro LL X W h0 hn hI
            have e6 : X.tmps[6]?.getD undef = .pointer (some ⟨w.heap.size + 1, 0, none⟩) := hI.old 6 (by decide)
            refine Qe       (v := .pointer (some ⟨w.heap.size + 1, 1, none⟩)) ?_ (hI.yield Qp          6 (by decide) (by decide) (fun e => absurd e (by decide)) (fun _ => rfl))
            simp [go_sem, e6]
          case r7 =>
            refine StepAt.mkf rfl (ns := [6, 1]) (by kernel_rfl) 1 92 false rfl (by kernel_rfl) (fun LL X W hn hI => hI.get 1 (by decide) (fun _ => rfl) (hn 1 (by decide))) ?_
            intro LL X W h0 hn hI
            have e97 : X.tmps[97]?.getD undef = .pointer (some ⟨w.heap.size + 1, 1, none⟩) := hI.get 6 (by decide) (fun _ => rfl) (hn 6 (by decide))
            have hG := hI.grown
            have c0 := (Qd         hG).cell x1 id
            refine Qe       (v := .slice (some ⟨gk, ok, none⟩) m2 c2) ?_ (hI.yield Qp          7 (by decide) (by decide) (fun e => absurd e (by decide)) (fun _ => rfl))
            simp [go_sem, e97, c0]
          case r8 =>
            refine StepAt.mkf rfl (ns := [1]) (by kernel_rfl) 1 92 false rfl (by kernel_rfl) (fun LL X W hn hI => hI.get 1 (by decide) (fun _ => rfl) (hn 1 (by decide))) ?_
            intro LL X W h0 hn hI
            have e16 : X.tmps[16]?.getD undef = .int .i64 (j : Int) := hI.old 16 (by decide)
            refine Qe       (v := .int .i64 (j : Int)) ?_ (hI.yield Qp          8 (by decide) (by decide) (fun e => absurd e (by decide)) (fun _ => rfl))
            simp [go_sem, e16]
          case r9 =>
            refine StepAt.mkf rfl (ns := [7, 8, 1]) (by kernel_rfl) 1 92 false rfl (by kernel_rfl) (fun LL X W hn hI => hI.get 1 (by decide) (fun _ => rfl) (hn 1 (by decide))) ?_
            intro LL X W h0 hn hI
            have e98 : X.tmps[98]?.getD undef = .slice (some ⟨gk, ok, none⟩) m2 c2 := hI.get 7 (by decide) (fun _ => rfl) (hn 7 (by decide))
            have e99 : X.tmps[99]?.getD undef = .int .i64 (j : Int) := hI.get 8 (by decide) (fun _ => rfl) (hn 8 (by decide))
            refine Qe       (v := .pointer (some ⟨gk, ok + j, none⟩)) ?_ (hI.yield Qp          9 (by decide) (by decide) (fun e => absurd e (by decide)) (fun _ => rfl))
            simp [go_sem, e98, e99, p0, p1]
          case r10 =>
            refine StepAt.mkf rfl (ns := [9, 1]) (by kernel_rfl) 1 92 false rfl (by kernel_rfl) (fun LL X W hn hI => hI.get 1 (by decide) (fun _ => rfl) (hn 1 (by decide))) ?_
            intro LL X W h0 hn hI
            have e100 : X.tmps[100]?.getD undef = .pointer (some ⟨gk, ok + j, none⟩) := hI.get 9 (by decide) (fun _ => rfl) (hn 9 (by decide))
            have hG := hI.grown
            have c0 := (Qd         hG).cell hk id
            refine Qe       (v := .int .u32 (k : Int)) ?_ (hI.yield Qp          10 (by decide) (by decide) (fun e => absurd e (by decide)) (fun _ => rfl))
            simp [go_sem, e100, c0]
          case r11 =>
            refine StepAt.mkf rfl (ns := [5, 10, 1, 1]) (by kernel_rfl) 1 92 false rfl (by kernel_rfl) (fun LL X W hn hI => hI.get 1 (by decide) (fun _ => rfl) (hn 1 (by decide))) ?_
            intro LL X W h0 hn hI
            have e96 : X.tmps[96]?.getD undef = .pointer (some ⟨sg, 0, none⟩) := hI.get 5 (by decide) (fun _ => rfl) (hn 5 (by decide))
            have e101 : X.tmps[101]?.getD undef = .int .u32 (k : Int) := hI.get 10 (by decide) (fun _ => rfl) (hn 10 (by decide))
            have hG := hI.grown
            refine QcE     (v := .int .i64 v) (R := fun w2 => W.grownBy w2 none) (f := 23) (vs := #[.pointer (some ⟨sg, 0, none⟩), .int .u32 (k : Int)]) ?_ ((HCK.out W hG).mono fun e w2 h => ⟨h.1, by rw [← h.2]; exact Qy         _⟩) (fun w2 hg => hI.value Qp          11 (by decide) (by decide) (fun e => absurd e (by decide)) (fun _ => rfl) hg)
            simp [go_sem, e96, e101]
          case r12 =>
            refine StepAt.mkf rfl (ns := [11, 1]) (by kernel_rfl) 1 92 false rfl (by kernel_rfl) (fun LL X W hn hI => hI.get 1 (by decide) (fun _ => rfl) (hn 1 (by decide))) ?_
            intro LL X W h0 hn hI
            have e102 : X.tmps[102]?.getD undef = .int .i64 v := hI.get 11 (by decide) (fun _ => rfl) (hn 11 (by decide))
            refine Qe       (v := .bool true) ?_ (hI.yield Qp          12 (by decide) (by decide) (fun e => absurd e (by decide)) (fun _ => rfl))
            simp [go_sem, e102, qv]
          case r13 =>
            refine StepAt.mk rfl (ns := [1, 12]) (by kernel_rfl) rfl ?_
            intro LL X W h0 hn hI
            have e92 : X.tmps[92]?.getD undef = .bool false := hI.get 1 (by decide) (fun _ => rfl) (hn 1 (by decide))
            have e103 : X.tmps[103]?.getD undef = .bool true := hI.get 12 (by decide) (fun _ => rfl) (hn 12 (by decide))
            refine Qe       (v := .bool true) ?_ (hI.yield Qp          13 (by decide) (by decide) (fun e => absurd e (by decide)) (fun _ => rfl))
            simp [go_sem, e92, e103]
          case r14 =>
            refine StepAt.mk rfl (ns := [13, 11]) (by kernel_rfl) rfl ?_
            intro LL X W h0 hn hI
            have e104 : X.tmps[104]?.getD undef = .bool true := hI.get 13 (by decide) (fun _ => rfl) (hn 13 (by decide))
            refine Qe       (v := .bool true) ?_ (hI.yield Qp          14 (by decide) (by decide) (fun e => absurd e (by decide)) (fun _ => rfl))
            simp [go_sem, e104]
          case r15 =>
            refine StepAt.off rfl (ns := [14]) (by kernel_rfl) 14 105 true rfl (by kernel_rfl) (fun LL X W hn hI => hI.get 14 (by decide) (fun _ => rfl) (hn 14 (by decide))) ?_
            intro LL X W h0 hn hI
            exact hI.yield Qp          15 (by decide) (by decide) (fun e => absurd e (by decide)) (fun _ => rfl)
          case r16 =>
            refine StepAt.off rfl (ns := [15, 14]) (by kernel_rfl) 14 105 true rfl (by kernel_rfl) (fun LL X W hn hI => hI.get 14 (by decide) (fun _ => rfl) (hn 14 (by decide))) ?_
            intro LL X W h0 hn hI
            exact hI.yield Qp          16 (by decide) (by decide) (fun e => absurd e (by decide)) (fun _ => rfl)
          case r17 =>
            refine StepAt.off rfl (ns := [14]) (by kernel_rfl) 14 105 true rfl (by kernel_rfl) (fun LL X W hn hI => hI.get 14 (by decide) (fun _ => rfl) (hn 14 (by decide))) ?_
            intro LL X W h0 hn hI
            exact hI.yield Qp          17 (by decide) (by decide) (fun e => absurd e (by decide)) (fun _ => rfl)
          case r18 =>
            refine StepAt.off rfl (ns := [16, 17, 14]) (by kernel_rfl) 14 105 true rfl (by kernel_rfl) (fun LL X W hn hI => hI.get 14 (by decide) (fun _ => rfl) (hn 14 (by decide))) ?_
            intro LL X W h0 hn hI
            exact hI.yield Qp          18 (by decide) (by decide) (fun e => absurd e (by decide)) (fun _ => rfl)
          case r19 =>
            refine StepAt.off rfl (ns := [18, 14]) (by kernel_rfl) 14 105 true rfl (by kernel_rfl) (fun LL X W hn hI => hI.get 14 (by decide) (fun _ => rfl) (hn 14 (by decide))) ?_
            intro LL X W h0 hn hI
            exact hI.yield Qp          19 (by decide) (by decide) (fun e => absurd e (by decide)) (fun _ => rfl)
          case r20 =>
            refine StepAt.off rfl (ns := [19, 14]) (by kernel_rfl) 14 105 true rfl (by kernel_rfl) (fun LL X W hn hI => hI.get 14 (by decide) (fun _ => rfl) (hn 14 (by decide))) ?_
            intro LL X W h0 hn hI
            exact hI.yield Qp          20 (by decide) (by decide) (fun e => absurd e (by decide)) (fun _ => rfl)
          case r21 =>
            refine StepAt.mk rfl (ns := [14, 20]) (by kernel_rfl) rfl ?_
            intro LL X W h0 hn hI
            have e105 : X.tmps[105]?.getD undef = .bool true := hI.get 14 (by decide) (fun _ => rfl) (hn 14 (by decide))
            have e111 : X.tmps[111]?.getD undef = undef := hI.get 20 (by decide) (fun _ => rfl) (hn 20 (by decide))
            refine Qe       (v := .bool true) ?_ (hI.yield Qp          21 (by decide) (by decide) (fun e => absurd e (by decide)) (fun _ => rfl))
            simp [go_sem, e105, e111]
          case r22 =>
            refine StepAt.mk rfl (ns := [21, 14, 0, 1, 2, 3, 4, 5, 6, 7, 8, 9, 10, 11, 12, 13, 14, 15, 16, 17, 18, 19, 20, 21]) (by kernel_rfl) rfl ?_
            intro LL X W h0 hn hI
            have e112 : X.tmps[112]?.getD undef = .bool true := hI.get 21 (by decide) (fun _ => rfl) (hn 21 (by decide))
            refine Qe       (v := .bool true) ?_ (hI.yield Qp          22 (by decide) (by decide) (fun _ => hn 0 (by decide)) (fun _ => rfl))
            simp [go_sem, e112]
        · intro LL X W hL hI
          replace hL : ∀ i, i < 23 → LL i = true := hL
          have hform := hI.form
          have v91 : At X 91 = .bool false := hI.at' 0 (by decide) (fun _ => rfl) (hL 0 (by omega))
          have v92 : At X 92 = .bool false := hI.at' 1 (by decide) (fun _ => rfl) (hL 1 (by omega))
          have v93 : At X 93 = .pointer (some ⟨rg, 0, none⟩) := hI.at' 2 (by decide) (fun _ => rfl) (hL 2 (by omega))
          have v94 : At X 94 = .pointer (some ⟨rg, 0, none⟩) := hI.at' 3 (by decide) (fun _ => rfl) (hL 3 (by omega))
          have v95 : At X 95 = .pointer (some ⟨rg, 1, none⟩) := hI.at' 4 (by decide) (fun _ => rfl) (hL 4 (by omega))
          have v96 : At X 96 = .pointer (some ⟨sg, 0, none⟩) := hI.at' 5 (by decide) (fun _ => rfl) (hL 5 (by omega))
          have v97 : At X 97 = .pointer (some ⟨w.heap.size + 1, 1, none⟩) := hI.at' 6 (by decide) (fun _ => rfl) (hL 6 (by omega))
          have v98 : At X 98 = .slice (some ⟨gk, ok, none⟩) m2 c2 := hI.at' 7 (by decide) (fun _ => rfl) (hL 7 (by omega))
          have v99 : At X 99 = .int .i64 (j : Int) := hI.at' 8 (by decide) (fun _ => rfl) (hL 8 (by omega))
          have v100 : At X 100 = .pointer (some ⟨gk, ok + j, none⟩) := hI.at' 9 (by decide) (fun _ => rfl) (hL 9 (by omega))
          have v101 : At X 101 = .int .u32 (k : Int) := hI.at' 10 (by decide) (fun _ => rfl) (hL 10 (by omega))
          have v102 : At X 102 = .int .i64 v := hI.at' 11 (by decide) (fun _ => rfl) (hL 11 (by omega))
          have v103 : At X 103 = .bool true := hI.at' 12 (by decide) (fun _ => rfl) (hL 12 (by omega))
          have v104 : At X 104 = .bool true := hI.at' 13 (by decide) (fun _ => rfl) (hL 13 (by omega))
          have v105 : At X 105 = .bool true := hI.at' 14 (by decide) (fun _ => rfl) (hL 14 (by omega))
          have v106 : At X 106 = undef := hI.at' 15 (by decide) (fun _ => rfl) (hL 15 (by omega))
          have v107 : At X 107 = undef := hI.at' 16 (by decide) (fun _ => rfl) (hL 16 (by omega))
          have v108 : At X 108 = undef := hI.at' 17 (by decide) (fun _ => rfl) (hL 17 (by omega))
          have v109 : At X 109 = undef := hI.at' 18 (by decide) (fun _ => rfl) (hL 18 (by omega))
          have v110 : At X 110 = undef := hI.at' 19 (by decide) (fun _ => rfl) (hL 19 (by omega))
          have v111 : At X 111 = undef := hI.at' 20 (by decide) (fun _ => rfl) (hL 20 (by omega))
          have v112 : At X 112 = .bool true := hI.at' 21 (by decide) (fun _ => rfl) (hL 21 (by omega))
          have v15 : At X 15 = .bool true := hI.at' 22 (by decide) (fun _ => rfl) (hL 22 (by omega))
          have HGE := Lib.hid hI.grown
          clear hI hL
          rw [show SR18A = [91, 92, 93, 94, 95, 96, 97, 98, 99, 100, 101, 102, 103, 104, 105, 106, 107, 108, 109, 110, 111, 112, 15] from rfl, List.foldl_cons, List.foldl_cons, List.foldl_cons, List.foldl_cons, List.foldl_cons, List.foldl_cons, List.foldl_cons, List.foldl_cons, List.foldl_cons, List.foldl_cons, List.foldl_cons, List.foldl_cons, List.foldl_cons, List.foldl_cons, List.foldl_cons, List.foldl_cons, List.foldl_cons, List.foldl_cons, List.foldl_cons, List.foldl_cons, List.foldl_cons, List.foldl_cons, List.foldl_cons, List.foldl_nil, v91, v92, v93, v94, v95, v96, v97, v98, v99, v100, v101, v102, v103, v104, v105, v106, v107, v108, v109, v110, v111, v112, v15] at hform
          clear v91 v92 v93 v94 v95 v96 v97 v98 v99 v100 v101 v102 v103 v104 v105 v106 v107 v108 v109 v110 v111 v112 v15
          subst hform
          simp only [Act.put, List.setIfInBounds_toArray, List.set_cons_succ, List.set_cons_zero]
          go_wp2
          go_roundw
          case rel => exact ⟨j + 1, by omega, by rw [HB1.out], by go_num, Lib.hid (Qa         HGR.out HGE.out)⟩
          case measure => simp [intOf]; omega
      · have qv : (v == 0) = false := beq_eq_false_iff_ne.2 hv0
        obtain ⟨b2, hb2⟩ : ∃ b, decide ((k : Int) < 2) = b := ⟨_, rfl⟩
        have HB1 : Hid (badP s p.kids (j + 1) = b2) := Lib.hid (by rw [HBS.out, decide_eq_false hv0, hb2]; rfl)
        clear hv0
        go_upto_region 18 with fail
        refine QD               (I := fun a0 LL X W => EL SR18B (VR18B rg sg gk ok j k m2 c2 w.heap.size v b2) 73 (fun _ _ => True) 22 0 wr a0 LL X W) (by kernel_rfl) (by kernel_rfl)
          (EL.start 113 (by simp) (by decide) (Qg         _) (fun _ _ _ _ _ => trivial)) ?_ ?_
        · show ∀ i, i < 23 → _
          refine Qc       (Qc       (Qc       (Qc       (Qc       (Qc       (Qc       (Qc       (Qc       (Qc       (Qc       (Qc       (Qc       (Qc       (Qc       (Qc       (Qc       (Qc       (Qc       (Qc       (Qc       (Qc       (Qc       all_nil ?r0) ?r1) ?r2) ?r3) ?r4) ?r5) ?r6) ?r7) ?r8) ?r9) ?r10) ?r11) ?r12) ?r13) ?r14) ?r15) ?r16) ?r17) ?r18) ?r19) ?r20) ?r21) ?r22
          case r0 =>
            refine StepAt.mk rfl (ns := []) (by kernel_rfl) rfl ?_
            intro LL X W h0 hn hI
            have e15 : X.tmps[15]?.getD undef = .bool false := hI.first (by decide) h0
            refine Qe       (v := .bool false) ?_ (hI.yield Qq          0 (by decide) (by decide) (fun e => absurd e (by decide)) (fun _ => rfl))
            simp [go_sem, e15]
          case r1 =>
            refine StepAt.mk rfl (ns := [0]) (by kernel_rfl) rfl ?_
            intro LL X W h0 hn hI
            have e91 : X.tmps[91]?.getD undef = .bool false := hI.get 0 (by decide) (fun _ => rfl) (hn 0 (by decide))
            refine Qe       (v := .bool false) ?_ (hI.yield Qq          1 (by decide) (by decide) (fun e => absurd e (by decide)) (fun _ => rfl))
            simp [go_sem, e91]
          case r2 =>
            refine StepAt.mkf rfl (ns := [1]) (by kernel_rfl) 1 92 false rfl (by kernel_rfl) (fun LL X W hn hI => hI.get 1 (by decide) (fun _ => rfl) (hn 1 (by decide))) ?_
            intro LL X W h0 hn hI
            have e9 : X.tmps[9]?.getD undef = .pointer (some ⟨rg, 0, none⟩) := hI.old 9 (by decide)
            refine Qe       (v := .pointer (some ⟨rg, 0, none⟩)) ?_ (hI.yield Qq          2 (by decide) (by decide) (fun e => absurd e (by decide)) (fun _ => rfl))
            simp [go_sem, e9]
          case r3 =>
            refine StepAt.mkf rfl (ns := [2, 1]) (by kernel_rfl) 1 92 false rfl (by kernel_rfl) (fun LL X W hn hI => hI.get 1 (by decide) (fun _ => rfl) (hn 1 (by decide))) ?_
            intro LL X W h0 hn hI
            have e93 : X.tmps[93]?.getD undef = .pointer (some ⟨rg, 0, none⟩) := hI.get 2 (by decide) (fun _ => rfl) (hn 2 (by decide))
            refine Qe       (v := .pointer (some ⟨rg, 0, none⟩)) ?_ (hI.yield Qq          3 (by decide) (by decide) (fun e => absurd e (by decide)) (fun _ => rfl))
            simp [go_sem, e93]
          case r4 =>
            refine StepAt.mkf rfl (ns := [3, 1]) (by kernel_rfl) 1 92 false rfl (by kernel_rfl) (fun LL X W hn hI => hI.get 1 (by decide) (fun _ => rfl) (hn 1 (by decide))) ?_
            intro LL X W h0 hn hI
            have e94 : X.tmps[94]?.getD undef = .pointer (some ⟨rg, 0, none⟩) := hI.get 3 (by decide) (fun _ => rfl) (hn 3 (by decide))
            refine Qe       (v := .pointer (some ⟨rg, 1, none⟩)) ?_ (hI.yield Qq          4 (by decide) (by decide) (fun e => absurd e (by decide)) (fun _ => rfl))
            simp [go_sem, e94]
          case r5 =>
            refine StepAt.mkf rfl (ns := [4, 1]) (by kernel_rfl) 1 92 false rfl (by kernel_rfl) (fun LL X W hn hI => hI.get 1 (by decide) (fun _ => rfl) (hn 1 (by decide))) ?_
            intro LL X W h0 hn hI
            have e95 : X.tmps[95]?.getD undef = .pointer (some ⟨rg, 1, none⟩) := hI.get 4 (by decide) (fun _ => rfl) (hn 4 (by decide))
            have hG := hI.grown
            have c0 := (Qd         hG).cell d1 id
            refine Qe       (v := .pointer (some ⟨sg, 0, none⟩)) ?_ (hI.yield Qq          5 (by decide) (by decide) (fun e => absurd e (by decide)) (fun _ => rfl))
            simp [go_sem, e95, c0]
          case r6 =>
            refine StepAt.mkf rfl (ns := [1]) (by kernel_rfl) 1 92 false rfl (by kernel_rfl) (fun LL X W hn hI => hI.get 1 (by decide) (fun _ => rfl) (hn 1 (by decide))) ?_
            intro LL X W h0 hn hI
            have e6 : X.tmps[6]?.getD undef = .pointer (some ⟨w.heap.size + 1, 0, none⟩) := hI.old 6 (by decide)
            refine Qe       (v := .pointer (some ⟨w.heap.size + 1, 1, none⟩)) ?_ (hI.yield Qq          6 (by decide) (by decide) (fun e => absurd e (by decide)) (fun _ => rfl))
            simp [go_sem, e6]
          case r7 =>
            refine StepAt.mkf rfl (ns := [6, 1]) (by kernel_rfl) 1 92 false rfl (by kernel_rfl) (fun LL X W hn hI => hI.get 1 (by decide) (fun _ => rfl) (hn 1 (by decide))) ?_
            intro LL X W h0 hn hI
            have e97 : X.tmps[97]?.getD undef = .pointer (some ⟨w.heap.size + 1, 1, none⟩) := hI.get 6 (by decide) (fun _ => rfl) (hn 6 (by decide))
            have hG := hI.grown
            have c0 := (Qd         hG).cell x1 id
            refine Qe       (v := .slice (some ⟨gk, ok, none⟩) m2 c2) ?_ (hI.yield Qq          7 (by decide) (by decide) (fun e => absurd e (by decide)) (fun _ => rfl))
            simp [go_sem, e97, c0]
          case r8 =>
            refine StepAt.mkf rfl (ns := [1]) (by kernel_rfl) 1 92 false rfl (by kernel_rfl) (fun LL X W hn hI => hI.get 1 (by decide) (fun _ => rfl) (hn 1 (by decide))) ?_
            intro LL X W h0 hn hI
            have e16 : X.tmps[16]?.getD undef = .int .i64 (j : Int) := hI.old 16 (by decide)
            refine Qe       (v := .int .i64 (j : Int)) ?_ (hI.yield Qq          8 (by decide) (by decide) (fun e => absurd e (by decide)) (fun _ => rfl))
            simp [go_sem, e16]
          case r9 =>
            refine StepAt.mkf rfl (ns := [7, 8, 1]) (by kernel_rfl) 1 92 false rfl (by kernel_rfl) (fun LL X W hn hI => hI.get 1 (by decide) (fun _ => rfl) (hn 1 (by decide))) ?_
            intro LL X W h0 hn hI
            have e98 : X.tmps[98]?.getD undef = .slice (some ⟨gk, ok, none⟩) m2 c2 := hI.get 7 (by decide) (fun _ => rfl) (hn 7 (by decide))
            have e99 : X.tmps[99]?.getD undef = .int .i64 (j : Int) := hI.get 8 (by decide) (fun _ => rfl) (hn 8 (by decide))
            refine Qe       (v := .pointer (some ⟨gk, ok + j, none⟩)) ?_ (hI.yield Qq          9 (by decide) (by decide) (fun e => absurd e (by decide)) (fun _ => rfl))
            simp [go_sem, e98, e99, p0, p1]
          case r10 =>
            refine StepAt.mkf rfl (ns := [9, 1]) (by kernel_rfl) 1 92 false rfl (by kernel_rfl) (fun LL X W hn hI => hI.get 1 (by decide) (fun _ => rfl) (hn 1 (by decide))) ?_
            intro LL X W h0 hn hI
            have e100 : X.tmps[100]?.getD undef = .pointer (some ⟨gk, ok + j, none⟩) := hI.get 9 (by decide) (fun _ => rfl) (hn 9 (by decide))
            have hG := hI.grown
            have c0 := (Qd         hG).cell hk id
            refine Qe       (v := .int .u32 (k : Int)) ?_ (hI.yield Qq          10 (by decide) (by decide) (fun e => absurd e (by decide)) (fun _ => rfl))
            simp [go_sem, e100, c0]
          case r11 =>
            refine StepAt.mkf rfl (ns := [5, 10, 1, 1]) (by kernel_rfl) 1 92 false rfl (by kernel_rfl) (fun LL X W hn hI => hI.get 1 (by decide) (fun _ => rfl) (hn 1 (by decide))) ?_
            intro LL X W h0 hn hI
            have e96 : X.tmps[96]?.getD undef = .pointer (some ⟨sg, 0, none⟩) := hI.get 5 (by decide) (fun _ => rfl) (hn 5 (by decide))
            have e101 : X.tmps[101]?.getD undef = .int .u32 (k : Int) := hI.get 10 (by decide) (fun _ => rfl) (hn 10 (by decide))
            have hG := hI.grown
            refine QcE     (v := .int .i64 v) (R := fun w2 => W.grownBy w2 none) (f := 23) (vs := #[.pointer (some ⟨sg, 0, none⟩), .int .u32 (k : Int)]) ?_ ((HCK.out W hG).mono fun e w2 h => ⟨h.1, by rw [← h.2]; exact Qy         _⟩) (fun w2 hg => hI.value Qq          11 (by decide) (by decide) (fun e => absurd e (by decide)) (fun _ => rfl) hg)
            simp [go_sem, e96, e101]
          case r12 =>
            refine StepAt.mkf rfl (ns := [11, 1]) (by kernel_rfl) 1 92 false rfl (by kernel_rfl) (fun LL X W hn hI => hI.get 1 (by decide) (fun _ => rfl) (hn 1 (by decide))) ?_
            intro LL X W h0 hn hI
            have e102 : X.tmps[102]?.getD undef = .int .i64 v := hI.get 11 (by decide) (fun _ => rfl) (hn 11 (by decide))
            refine Qe       (v := .bool false) ?_ (hI.yield Qq          12 (by decide) (by decide) (fun e => absurd e (by decide)) (fun _ => rfl))
            simp [go_sem, e102, qv]
          case r13 =>
            refine StepAt.mk rfl (ns := [1, 12]) (by kernel_rfl) rfl ?_
            intro LL X W h0 hn hI
            have e92 : X.tmps[92]?.getD undef = .bool false := hI.get 1 (by decide) (fun _ => rfl) (hn 1 (by decide))
            have e103 : X.tmps[103]?.getD undef = .bool false := hI.get 12 (by decide) (fun _ => rfl) (hn 12 (by decide))
            refine Qe       (v := .bool false) ?_ (hI.yield Qq          13 (by decide) (by decide) (fun e => absurd e (by decide)) (fun _ => rfl))
            simp [go_sem, e92, e103]
          case r14 =>
            refine StepAt.mk rfl (ns := [13, 11]) (by kernel_rfl) rfl ?_
            intro LL X W h0 hn hI
            have e104 : X.tmps[104]?.getD undef = .bool false := hI.get 13 (by decide) (fun _ => rfl) (hn 13 (by decide))
            refine Qe       (v := .bool false) ?_ (hI.yield Qq          14 (by decide) (by decide) (fun e => absurd e (by decide)) (fun _ => rfl))
            simp [go_sem, e104]
          case r15 =>
            refine StepAt.mkf rfl (ns := [14]) (by kernel_rfl) 14 105 false rfl (by kernel_rfl) (fun LL X W hn hI => hI.get 14 (by decide) (fun _ => rfl) (hn 14 (by decide))) ?_
            intro LL X W h0 hn hI
            have e6 : X.tmps[6]?.getD undef = .pointer (some ⟨w.heap.size + 1, 0, none⟩) := hI.old 6 (by decide)
            refine Qe       (v := .pointer (some ⟨w.heap.size + 1, 1, none⟩)) ?_ (hI.yield Qq          15 (by decide) (by decide) (fun e => absurd e (by decide)) (fun _ => rfl))
            simp [go_sem, e6]
          case r16 =>
            refine StepAt.mkf rfl (ns := [15, 14]) (by kernel_rfl) 14 105 false rfl (by kernel_rfl) (fun LL X W hn hI => hI.get 14 (by decide) (fun _ => rfl) (hn 14 (by decide))) ?_
            intro LL X W h0 hn hI
            have e106 : X.tmps[106]?.getD undef = .pointer (some ⟨w.heap.size + 1, 1, none⟩) := hI.get 15 (by decide) (fun _ => rfl) (hn 15 (by decide))
            have hG := hI.grown
            have c0 := (Qd         hG).cell x1 id
            refine Qe       (v := .slice (some ⟨gk, ok, none⟩) m2 c2) ?_ (hI.yield Qq          16 (by decide) (by decide) (fun e => absurd e (by decide)) (fun _ => rfl))
            simp [go_sem, e106, c0]
          case r17 =>
            refine StepAt.mkf rfl (ns := [14]) (by kernel_rfl) 14 105 false rfl (by kernel_rfl) (fun LL X W hn hI => hI.get 14 (by decide) (fun _ => rfl) (hn 14 (by decide))) ?_
            intro LL X W h0 hn hI
            have e16 : X.tmps[16]?.getD undef = .int .i64 (j : Int) := hI.old 16 (by decide)
            refine Qe       (v := .int .i64 (j : Int)) ?_ (hI.yield Qq          17 (by decide) (by decide) (fun e => absurd e (by decide)) (fun _ => rfl))
            simp [go_sem, e16]
          case r18 =>
            refine StepAt.mkf rfl (ns := [16, 17, 14]) (by kernel_rfl) 14 105 false rfl (by kernel_rfl) (fun LL X W hn hI => hI.get 14 (by decide) (fun _ => rfl) (hn 14 (by decide))) ?_
            intro LL X W h0 hn hI
            have e107 : X.tmps[107]?.getD undef = .slice (some ⟨gk, ok, none⟩) m2 c2 := hI.get 16 (by decide) (fun _ => rfl) (hn 16 (by decide))
            have e108 : X.tmps[108]?.getD undef = .int .i64 (j : Int) := hI.get 17 (by decide) (fun _ => rfl) (hn 17 (by decide))
            refine Qe       (v := .pointer (some ⟨gk, ok + j, none⟩)) ?_ (hI.yield Qq          18 (by decide) (by decide) (fun e => absurd e (by decide)) (fun _ => rfl))
            simp [go_sem, e107, e108, p0, p1]
          case r19 =>
            refine StepAt.mkf rfl (ns := [18, 14]) (by kernel_rfl) 14 105 false rfl (by kernel_rfl) (fun LL X W hn hI => hI.get 14 (by decide) (fun _ => rfl) (hn 14 (by decide))) ?_
            intro LL X W h0 hn hI
            have e109 : X.tmps[109]?.getD undef = .pointer (some ⟨gk, ok + j, none⟩) := hI.get 18 (by decide) (fun _ => rfl) (hn 18 (by decide))
            have hG := hI.grown
            have c0 := (Qd         hG).cell hk id
            refine Qe       (v := .int .u32 (k : Int)) ?_ (hI.yield Qq          19 (by decide) (by decide) (fun e => absurd e (by decide)) (fun _ => rfl))
            simp [go_sem, e109, c0]
          case r20 =>
            refine StepAt.mkf rfl (ns := [19, 14]) (by kernel_rfl) 14 105 false rfl (by kernel_rfl) (fun LL X W hn hI => hI.get 14 (by decide) (fun _ => rfl) (hn 14 (by decide))) ?_
            intro LL X W h0 hn hI
            have e110 : X.tmps[110]?.getD undef = .int .u32 (k : Int) := hI.get 19 (by decide) (fun _ => rfl) (hn 19 (by decide))
            refine Qe       (v := .bool b2) ?_ (hI.yield Qq          20 (by decide) (by decide) (fun e => absurd e (by decide)) (fun _ => rfl))
            simp [go_sem, e110, hb2]
          case r21 =>
            refine StepAt.mk rfl (ns := [14, 20]) (by kernel_rfl) rfl ?_
            intro LL X W h0 hn hI
            have e105 : X.tmps[105]?.getD undef = .bool false := hI.get 14 (by decide) (fun _ => rfl) (hn 14 (by decide))
            have e111 : X.tmps[111]?.getD undef = .bool b2 := hI.get 20 (by decide) (fun _ => rfl) (hn 20 (by decide))
            refine Qe       (v := .bool b2) ?_ (hI.yield Qq          21 (by decide) (by decide) (fun e => absurd e (by decide)) (fun _ => rfl))
            simp [go_sem, e105, e111]
          case r22 =>
            refine StepAt.mk rfl (ns := [21, 14, 0, 1, 2, 3, 4, 5, 6, 7, 8, 9, 10, 11, 12, 13, 14, 15, 16, 17, 18, 19, 20, 21]) (by kernel_rfl) rfl ?_
            intro LL X W h0 hn hI
            have e112 : X.tmps[112]?.getD undef = .bool b2 := hI.get 21 (by decide) (fun _ => rfl) (hn 21 (by decide))
            refine Qe       (v := .bool b2) ?_ (hI.yield Qq          22 (by decide) (by decide) (fun _ => hn 0 (by decide)) (fun _ => rfl))
            simp [go_sem, e112]
        · intro LL X W hL hI
          replace hL : ∀ i, i < 23 → LL i = true := hL
          have hform := hI.form
          have v91 : At X 91 = .bool false := hI.at' 0 (by decide) (fun _ => rfl) (hL 0 (by omega))
          have v92 : At X 92 = .bool false := hI.at' 1 (by decide) (fun _ => rfl) (hL 1 (by omega))
          have v93 : At X 93 = .pointer (some ⟨rg, 0, none⟩) := hI.at' 2 (by decide) (fun _ => rfl) (hL 2 (by omega))
          have v94 : At X 94 = .pointer (some ⟨rg, 0, none⟩) := hI.at' 3 (by decide) (fun _ => rfl) (hL 3 (by omega))
          have v95 : At X 95 = .pointer (some ⟨rg, 1, none⟩) := hI.at' 4 (by decide) (fun _ => rfl) (hL 4 (by omega))
          have v96 : At X 96 = .pointer (some ⟨sg, 0, none⟩) := hI.at' 5 (by decide) (fun _ => rfl) (hL 5 (by omega))
          have v97 : At X 97 = .pointer (some ⟨w.heap.size + 1, 1, none⟩) := hI.at' 6 (by decide) (fun _ => rfl) (hL 6 (by omega))
          have v98 : At X 98 = .slice (some ⟨gk, ok, none⟩) m2 c2 := hI.at' 7 (by decide) (fun _ => rfl) (hL 7 (by omega))
          have v99 : At X 99 = .int .i64 (j : Int) := hI.at' 8 (by decide) (fun _ => rfl) (hL 8 (by omega))
          have v100 : At X 100 = .pointer (some ⟨gk, ok + j, none⟩) := hI.at' 9 (by decide) (fun _ => rfl) (hL 9 (by omega))
          have v101 : At X 101 = .int .u32 (k : Int) := hI.at' 10 (by decide) (fun _ => rfl) (hL 10 (by omega))
          have v102 : At X 102 = .int .i64 v := hI.at' 11 (by decide) (fun _ => rfl) (hL 11 (by omega))
          have v103 : At X 103 = .bool false := hI.at' 12 (by decide) (fun _ => rfl) (hL 12 (by omega))
          have v104 : At X 104 = .bool false := hI.at' 13 (by decide) (fun _ => rfl) (hL 13 (by omega))
          have v105 : At X 105 = .bool false := hI.at' 14 (by decide) (fun _ => rfl) (hL 14 (by omega))
          have v106 : At X 106 = .pointer (some ⟨w.heap.size + 1, 1, none⟩) := hI.at' 15 (by decide) (fun _ => rfl) (hL 15 (by omega))
          have v107 : At X 107 = .slice (some ⟨gk, ok, none⟩) m2 c2 := hI.at' 16 (by decide) (fun _ => rfl) (hL 16 (by omega))
          have v108 : At X 108 = .int .i64 (j : Int) := hI.at' 17 (by decide) (fun _ => rfl) (hL 17 (by omega))
          have v109 : At X 109 = .pointer (some ⟨gk, ok + j, none⟩) := hI.at' 18 (by decide) (fun _ => rfl) (hL 18 (by omega))
          have v110 : At X 110 = .int .u32 (k : Int) := hI.at' 19 (by decide) (fun _ => rfl) (hL 19 (by omega))
          have v111 : At X 111 = .bool b2 := hI.at' 20 (by decide) (fun _ => rfl) (hL 20 (by omega))
          have v112 : At X 112 = .bool b2 := hI.at' 21 (by decide) (fun _ => rfl) (hL 21 (by omega))
          have v15 : At X 15 = .bool b2 := hI.at' 22 (by decide) (fun _ => rfl) (hL 22 (by omega))
          have HGE := Lib.hid hI.grown
          clear hI hL
          rw [show SR18B = [91, 92, 93, 94, 95, 96, 97, 98, 99, 100, 101, 102, 103, 104, 105, 106, 107, 108, 109, 110, 111, 112, 15] from rfl, List.foldl_cons, List.foldl_cons, List.foldl_cons, List.foldl_cons, List.foldl_cons, List.foldl_cons, List.foldl_cons, List.foldl_cons, List.foldl_cons, List.foldl_cons, List.foldl_cons, List.foldl_cons, List.foldl_cons, List.foldl_cons, List.foldl_cons, List.foldl_cons, List.foldl_cons, List.foldl_cons, List.foldl_cons, List.foldl_cons, List.foldl_cons, List.foldl_cons, List.foldl_cons, List.foldl_nil, v91, v92, v93, v94, v95, v96, v97, v98, v99, v100, v101, v102, v103, v104, v105, v106, v107, v108, v109, v110, v111, v112, v15] at hform
          clear v91 v92 v93 v94 v95 v96 v97 v98 v99 v100 v101 v102 v103 v104 v105 v106 v107 v108 v109 v110 v111 v112 v15
          subst hform
          simp only [Act.put, List.setIfInBounds_toArray, List.set_cons_succ, List.set_cons_zero]
          go_wp2
          go_roundw
          case rel => exact ⟨j + 1, by omega, by rw [HB1.out], by go_num, Lib.hid (Qa         HGR.out HGE.out)⟩
          case measure => simp [intOf]; omega
  case neg =>
  have hq : decide (j < m2) = false := decide_eq_false hlt
  obtain rfl : m2 = j := by omega
  clear hlt hjm
  have HRCR : Hid (wr.cell? ⟨rg, 0, none⟩ = some (.pointer (some ⟨dg, 0, none⟩)) ∧ wr.cell? ⟨rg, 1, none⟩ = some (.pointer (some ⟨sg, 0, none⟩))) := Lib.hid ⟨(Qd         HGR.out).cell HRC6.out.1 id, (Qd         HGR.out).cell HRC6.out.2 id⟩
  have HBAD : Hid ((badP s p.kids m2 || decide (t2 < 3)) = true → ∃ E, putErr s p = E ∧ E ≠ 0 ∧ (E = 2 ∨ E = 8)) := Lib.hid (fun h => Qkn     (by
    rw [HPV.out.2.1, HPV.out.1]
    rw [Bool.or_eq_true, decide_eq_true_iff] at h
    exact h))
  obtain ⟨B, hB⟩ : ∃ B, badP s p.kids m2 = B := ⟨_, rfl⟩
  rw [hB] at HBAD ⊢
  obtain ⟨T3, hT3⟩ : ∃ b, decide (t2 < 3) = b := ⟨_, rfl⟩
  rw [hT3] at HBAD
  have HT3 := Lib.hid hT3
  clear hB hT3
  have HPT := Lib.hid (fun W (k : wr.grownBy W none) (E : Int) (hE : putErr s p = E) (h0 : E ≠ 0) => Qar        (HSR.out.go k) HOKS.out (by omega) p a2 c2 HPO.out (by rw [HPV.out.2.1]; exact HSP.out W (HSR.out.go k).gr) (by have h1 := HS2.out; have h2 := HD600.out; omega) hE h0)
  rw [HPV.out.1, HPV.out.2.1, HPV.out.2.2] at HPT
  have d1 := HRCR.out.2
  have HQP := Lib.hid (Qk        HBP.out HSR.out.gr)
  go_upto_region 19 with fail
  go_cut [118] from 113 to 118 (fun cv wx => cv = .bool (B || T3) ∧ Hid (wx = wr))
  case first =>
    have hT3 := HT3.out
    cases B with
    | true =>
      go_wp2
      go_meet
      exact ⟨rfl, Lib.hid rfl⟩
    | false =>
      go_wp2
      go_meet
      exact ⟨rfl, Lib.hid rfl⟩
  case rest =>
  obtain ⟨rfl, HWC⟩ := hcut
  obtain rfl := HWC.out
  obtain ⟨C, hC⟩ : ∃ C, (B || T3) = C := ⟨_, rfl⟩
  rw [hC] at HBAD ⊢
  clear hC HWC
  go_upto_if 118 with fail
  go_cut [17, 18] from 119 to 133 (fun _ _ wx => Hid (Sh W0 wx sg dg (fun k => k = rg) s) ∧ Hid (wx.cell? ⟨rg, 0, none⟩ = some (.pointer (some ⟨dg, 0, none⟩)) ∧ wx.cell? ⟨rg, 1, none⟩ = some (.pointer (some ⟨sg, 0, none⟩))))
  case first =>
    cases C with
    | false =>
      go_wp2
      go_meet
      exact ⟨HSR, HRCR⟩
    | true =>
      obtain ⟨E, hE, hE0, hE2⟩ := HBAD.out rfl
      have HP1 := Lib.hid (HPT.out _ (Qg         wc) E hE hE0)
      clear hE hE0
      go_upto_region 20 with fail
      go_region_held3 (fun w' => w'.cell? ⟨rg, 1, none⟩ = some (.pointer (some ⟨sg, 0, none⟩)) ∧ w'.cell? ⟨w.heap.size + 1, 0, none⟩ = some (.int .u8 t2) ∧ w'.cell? ⟨w.heap.size + 1, 1, none⟩ = some (.slice a2 m2 c2) ∧ w'.cell? ⟨w.heap.size + 1, 2, none⟩ = some (.string S2)) (go_keep)
        (first
          | (go_at_call 16
             (with_reducible refine HP1.out.mono ?_)
             rintro e w7 ⟨rfl, hs7, ht7⟩
             have HS7 := Lib.hid hs7
             have HT7 := Lib.hid ((Stay.Qm       (A := fun k => k = rg) (Qg         wc)).trans ht7)
             have k1 := HT7.out.cell d1 rfl
             have k2 := (QaK      (Qk        HBP.out HS7.out.gr))
             obtain ⟨k2, k3, k4⟩ := k2
             clear hs7 ht7)
          | fail)
      have HRC7 : Hid (w7.cell? ⟨rg, 0, none⟩ = some (.pointer (some ⟨dg, 0, none⟩)) ∧ w7.cell? ⟨rg, 1, none⟩ = some (.pointer (some ⟨sg, 0, none⟩))) := Lib.hid ⟨HT7.out.cell HRCR.out.1 rfl, HT7.out.cell HRCR.out.2 rfl⟩
      rcases hE2 with rfl | rfl
      all_goals
        go_wp2
        go_meet
        exact ⟨HS7, HRC7⟩
  case rest =>
  obtain ⟨HS7, HRC7⟩ := hcut
  by_cases hc0 : cz = 0
  case neg =>
    have qz : (cz == 0) = false := beq_eq_false_iff_ne.2 hc0
    clear hc0
    have d0 := HRC7.out.1
    have d1 := HRC7.out.2
    have HC9 := Lib.hid (HCT.out wc HS7.out)
    have HF9 := Lib.hid (HFR.out wc HS7.out)
    have HI9 := Lib.hid (HIM.out wc HS7.out)
    have HP9 := Lib.hid (HPD.out wc HS7.out)
    have b1 : ((fr : Int) == (fr : Int)) = true := beq_self_eq_true _
    have b2 : (cz == cz) = true := beq_self_eq_true _
    have b3 : (IM.toList == IM.toList) = true := beq_self_eq_true _
    have b4 : ((pd : Int) == (pd : Int)) = true := beq_self_eq_true _
    go_wp2_with (first
      | (go_at_call 20; refine HF9.out.mono ?_; rintro e w20 ⟨rfl, rfl⟩)
      | (go_at_call 23; refine HC9.out.mono ?_; rintro e w20 ⟨rfl, rfl⟩)
      | (go_at_call 52; refine HI9.out.mono ?_; rintro e w20 ⟨rfl, rfl⟩)
      | (go_at_call 55; refine HP9.out.mono ?_; rintro e w20 ⟨pa, pc, rfl, hg20⟩; have HX := Lib.hid (Qa         HG0.out (Qa         HS7.out.gr hg20)); clear hg20)
      | fail)
    go_ret
    exact ⟨rfl, HX.out⟩
  case pos =>
  have qz : (cz == 0) = true := beq_iff_eq.2 hc0
  have hz0 : z ≠ 0 := fun e => by
    have h1 := HCZ.out
    rw [e, HOKS.out.now.cok.at0] at h1
    omega
  have hE : useE s z ≠ 0 := by
    unfold useE
    by_cases q : accE s z ≠ 0
    · rw [if_pos q]; exact q
    · rw [if_neg q, if_pos (by rw [HCZ.out]; exact hc0)]; decide
  have hGE : getErr s z = useE s z := by unfold getErr; rw [if_pos hE]
  have hCE : comE s z = useE s z := by unfold comE; rw [if_neg (by omega), Int.toNat_natCast]
  have HGT := Lib.hid (Qer    HS7.out HPGL.out z HZZ.out)
  have HSHR := Lib.hid (fun W (h : Sh W0 W sg dg (fun k => k = rg) s) => QdH         h HPGL.out z HZZ.out hE)
  have HDRP := Lib.hid (fun W (h : Sh W0 W sg dg (fun k => k = rg) s) => QhL        h HPGL.out z HZZ.out hE)
  have HCMT := Lib.hid (fun W (h : Sh W0 W sg dg (fun k => k = rg) s) => Qcf          h z HZZ.out HPGL.out hCE hE)
  have HGE := Lib.hid hGE
  have HEE := Lib.hid hE
  obtain ⟨E, hEE⟩ : ∃ E, useE s z = E := ⟨_, rfl⟩
  rw [hEE] at HSHR HDRP HCMT HGE HEE
  have d1 := HRC7.out.2
  clear hc0 hE hGE hCE hEE
  go_wp2_with fail
  refine HGT.out.mono ?_
  rintro e w8 ⟨hg8, hx⟩
  rcases hx with ⟨-, rfl⟩ | ⟨_, _, _, h0, _⟩
  rotate_left
  · exact absurd (HGE.out.symm.trans h0) HEE.out
  rw [HGE.out]
  have HC8 := Lib.hid (heap_alloc_new w8 (.cells #[.int .u8 0, .slice none 0 0, .string ⟨#[]⟩] 40))
  have HG8 := Lib.hid (Qa         hg8 (Qb          w8 (.cells #[.int .u8 0, .slice none 0 0, .string ⟨#[]⟩] 40)))
  have HZ8 := Lib.hid hg8.size
  clear hg8 d1 HGT
  dsimp only [zeroPg]
  go_upto_region 25 with (first
    | (with_reducible refine Qt              rfl (.tmp 19) (.tmp 143) rfl w8.heap.size rfl (.int .u8 0) (.slice none 0 0) (.string ⟨#[]⟩) rfl rfl rfl rfl _ _ _ HC8.out ?_; intro w9 hq9 ht9; have HG9 := Lib.hid (Qj        HG8.out ht9 HZ8.out); clear hq9 ht9)
    | fail)
  have HS9 := Lib.hid (HS7.out.go (Qa         HG9.out (Qg         w9)))
  have HRC9 : Hid (w9.cell? ⟨rg, 0, none⟩ = some (.pointer (some ⟨dg, 0, none⟩)) ∧ w9.cell? ⟨rg, 1, none⟩ = some (.pointer (some ⟨sg, 0, none⟩))) := Lib.hid ⟨(Qd         HG9.out).cell HRC7.out.1 id, (Qd         HG9.out).cell HRC7.out.2 id⟩
  have d1 := HRC9.out.2
  have HSH2 := Lib.hid (HSHR.out _ HS9.out)
  go_region_held3 (fun w' => w'.cell? ⟨rg, 1, none⟩ = some (.pointer (some ⟨sg, 0, none⟩))) (go_keep)
    (first
      | (go_at_call 28
         (with_reducible refine HSH2.out.mono ?_)
         rintro e w10 ⟨rfl, hs10, ht10⟩
         have HS10 := Lib.hid hs10
         have HT10 := Lib.hid ((Stay.Qm       (A := fun k => k = rg) (Qg         w9)).trans ht10)
         have k1 := HT10.out.cell d1 rfl
         clear hs10 ht10)
      | (go_at_call 19
         (with_reducible refine (HDRP.out _ HS10.out).mono ?_)
         rintro e w11 ⟨rfl, hg11⟩
         have HS11 := Lib.hid (HS10.out.go hg11)
         have k2 := (Qd         hg11).cell k1 id
         have HG11 := Lib.hid hg11
         clear hg11)
      | (go_at_call 27
         (with_reducible refine (HCMT.out _ HS11.out).mono ?_)
         rintro e w12 ⟨rfl, rfl⟩)
      | fail)
  have HRC11 : Hid (w11.cell? ⟨rg, 0, none⟩ = some (.pointer (some ⟨dg, 0, none⟩)) ∧ w11.cell? ⟨rg, 1, none⟩ = some (.pointer (some ⟨sg, 0, none⟩))) := Lib.hid ⟨(Qd         HG11.out).cell (HT10.out.cell HRC9.out.1 rfl) id, k2⟩
  have q1 : (E == 0) = false := beq_eq_false_iff_ne.2 HEE.out
  have q2 : (E != E) = false := by rw [bne, beq_self_eq_true]; rfl
  have q3 : ((z : Int) != 0) = true := bne_iff_ne.2 (by omega)
  have q4 : ((z : Int) == 0) = false := beq_eq_false_iff_ne.2 (by omega)
  clear d1 k1 k2 hz0
  have d0 := HRC11.out.1
  have d1 := HRC11.out.2
  have HC9 := Lib.hid (HCT.out w11 HS11.out)
  have HF9 := Lib.hid (HFR.out w11 HS11.out)
  have HI9 := Lib.hid (HIM.out w11 HS11.out)
  have HP9 := Lib.hid (HPD.out w11 HS11.out)
  have b1 : ((fr : Int) == (fr : Int)) = true := beq_self_eq_true _
  have b2 : (cz == cz) = true := beq_self_eq_true _
  have b3 : (IM.toList == IM.toList) = true := beq_self_eq_true _
  have b4 : ((pd : Int) == (pd : Int)) = true := beq_self_eq_true _
  go_wp2_with (first
    | (go_at_call 20; refine HF9.out.mono ?_; rintro e w20 ⟨rfl, rfl⟩)
    | (go_at_call 23; refine HC9.out.mono ?_; rintro e w20 ⟨rfl, rfl⟩)
    | (go_at_call 52; refine HI9.out.mono ?_; rintro e w20 ⟨rfl, rfl⟩)
    | (go_at_call 55; refine HP9.out.mono ?_; rintro e w20 ⟨pa, pc, rfl, hg20⟩; have HX := Lib.hid (Qa         HG0.out (Qa         HS11.out.gr hg20)); clear hg20)
    | fail)
  go_ret
  exact ⟨rfl, HX.out⟩
end Sp
namespace Sp
open Go.RowKit Bs Dv Gr
open Su (Sup SupOk GeoOk supE T4)
theorem names_any(w:World)(hT4:T4 w) :
  Calls Tryz.prog 3 #[] w fun e w'=>e=.returned (.bool true)∧w.grownBy w' none:=by
 have HT4:=hid hT4;have HLV:=hid (Qcv w hT4);have HSM:=hid (fun W=>QdI W);have HMD:=hid (fun W (k:w.grownBy W none)=>QgX w W k hT4);have HFN:=hid (fun W=>Qei W);have HNB:=hid (fun W (k:w.grownBy W none)=>Qf5 w W 128 12 k QaQ);have HNW:=hid (fun W (k:w.grownBy W none)=>Qf5 w W 128 1400 k Qd4);have HOB:=hid (fun W g b (h:Held w W g b (.slice none 0 0) (St.fresh 128 12 (zeros 128 12)))=>QkZ w W g b _ _ h Qhb hT4);have HFW:=hid (fun W g b (h:Held w W g b (.slice none 0 0) (St.fresh 128 1400 (zeros 128 1400)))=>Qeh w W g b _ 128 1400 h Qd4 hT4);have F:=hid nmf0;have HRT:Hid ((firstP 128 12).sup.root=0∧(firstP 128 12).sup.gen=1):=hid ⟨rfl,rfl⟩;obtain⟨s0,hs0⟩:∃s0,firstP 128 12=s0:=⟨_,rfl⟩;rw[hs0]at HMD F HRT;have HTA:Hid (∀W,Calls Tryz.prog 17 #[.string ⟨#[97]⟩,.int .i64 111] W fun e w'=>e=.returned (.string (strOfNums (rep 111 97)))∧W=w'):=hid (fun W=>Qfi 97 111 W (by decide));have HTB:Hid (∀W,Calls Tryz.prog 17 #[.string ⟨#[97]⟩,.int .i64 110] W fun e w'=>e=.returned (.string (strOfNums (rep 110 97)))∧W=w'):=hid (fun W=>Qfi 97 110 W (by decide));obtain⟨R1,hR1⟩:∃R,strOfNums (rep 111 97)=R:=⟨_,rfl⟩;obtain⟨R0,hR0⟩:∃R,strOfNums (rep 110 97)=R:=⟨_,rfl⟩;rw[hR1]at HTA;rw[hR0]at HTB;have HR1:=hid hR1;have HR0:=hid hR0;clear hT4 hs0 hR1 hR0;go_enter Tryz.func3,Tryz.ntmps3
 go_wp2_with fail
 refine(HLV.out).mono ?_;rintro e w1 ⟨rfl,hg⟩;have HG1:=hid hg;clear hg HLV
 try dsimp only
 go_wp2_with fail
 refine(HSM.out w1).mono ?_;rintro e w2 ⟨rfl,hg⟩;have HG2:=hid (Qa HG1.out hg);clear hg
 try dsimp only
 go_wp2_with fail
 refine(HMD.out w2 HG2.out).mono ?_;rintro e w3 ⟨sg,g,rfl,hm,hg⟩;have HG3:=hid (Qa HG2.out hg);have HS3:=hid hm;clear hg hm HMD
 try dsimp only
 go_wp2_with fail
 refine(HFN.out w3).mono ?_;rintro e w4 ⟨rfl,hg⟩;have HG4:=hid (Qa HG3.out hg);have HS4:=hid (HS3.out.go hg);clear HS3;clear hg
 try dsimp only
 go_wp2_with fail
 refine(HSM.out w4).mono ?_;rintro e w5 ⟨rfl,hg⟩;have HG5:=hid (Qa HG4.out hg);have HS5:=hid (HS4.out.go hg);clear HS4;clear hg
 try dsimp only
 go_wp2_with fail
 refine(HNB.out w5 HG5.out).mono ?_;rintro e w6 ⟨g2,b2,rfl,hd,hg⟩;have HG6:=hid (Qa HG5.out hg);have HS6:=hid (HS5.out.go hg);clear HS5;have HD2:=hid hd;clear hg hd
 try dsimp only
 go_wp2_with fail
 refine(HOB.out w6 g2 b2 HD2.out).mono ?_;rintro e w7 ⟨rfl,hg⟩;have HG7:=hid (Qa HG6.out hg);have HS7:=hid (HS6.out.go hg);clear HS6;clear hg HD2 HOB
 try dsimp only
 go_wp2_with fail
 refine(HNW.out w7 HG7.out).mono ?_;rintro e w8 ⟨g3,b3,rfl,hd,hg⟩;have HG8:=hid (Qa HG7.out hg);have HS8:=hid (HS7.out.go hg);clear HS7;have HD3:=hid hd;clear hg hd HNW HNB
 try dsimp only
 go_wp2_with fail
 refine(HFW.out w8 g3 b3 HD3.out).mono ?_;rintro e w9 hx;rcases hx with ⟨hz,-⟩|⟨-,rfl,hg⟩
 ·rw[Qgt]at hz;cases hz
 have HG9:=hid (Qa HG8.out hg);have HS9:=hid (HS8.out.go hg);clear HS8;rw[Qgt];clear hg HD3 HFW
 try dsimp only
 have HP:Hid (Calls Tryz.prog 16 #[.pointer (some ⟨sg,0,none⟩),.agg #[.int .u8 2,.slice none 0 0,.string ⟨#[]⟩]] w9 (ShX w w9 sg g (fun _=>False) (.tuple #[.int .u32 0,.int .i64 2]) s0)):=hid (by exact Qar HS9.out F.out.k0 (by decide) n2 none 0 n2_ok (Q9 w9) (by decide) F.out.e1 (by decide));go_wp2_with fail
 refine HP.out.mono ?_;rintro e w10 ⟨rfl,hm,-⟩;have HS10:=hid hm;clear hm HP HS9
 try dsimp only
 have hg0:=Qb w10 (.cells #[.int .u32 2] 35);have hseg:Ws.Seg (w10.alloc (.cells #[.int .u32 2] 35)) (some ⟨w10.heap.size,0,none⟩) 1 1 [2]:=lit32 w10 2;obtain⟨X10,hX⟩:∃X,w10.alloc (.cells #[.int .u32 2] 35)=X:=⟨_,rfl⟩;rw[hX]at hg0 hseg;have HX:=hid hX;have hm0:=HS10.out.go hg0;have HP:Hid (Calls Tryz.prog 16 #[.pointer (some ⟨sg,0,none⟩),.agg #[.int .u8 3,.slice (some ⟨w10.heap.size,0,none⟩) 1 1,.string ⟨#[]⟩]] X10 (ShX w X10 sg g (fun _=>False) (.tuple #[.int .u32 0,.int .i64 2]) s0)):=hid (by exact Qar hm0 F.out.k0 (by decide) nK2 (some ⟨w10.heap.size,0,none⟩) 1 Qlw hseg (by decide) F.out.e2 (by decide));clear hg0 hseg hX hm0;go_wp2_with fail
 rw[HX.out];refine HP.out.mono ?_;rintro e w11 ⟨rfl,hm,-⟩;have HS11:=hid hm;clear hm HP HS10 HX
 try dsimp only
 have hg0:=Qb w11 (.cells #[.int .u32 5] 35);have hseg:Ws.Seg (w11.alloc (.cells #[.int .u32 5] 35)) (some ⟨w11.heap.size,0,none⟩) 1 1 [5]:=lit32 w11 5;obtain⟨X11,hX⟩:∃X,w11.alloc (.cells #[.int .u32 5] 35)=X:=⟨_,rfl⟩;rw[hX]at hg0 hseg;have HX:=hid hX;have hm0:=HS11.out.go hg0;have HP:Hid (Calls Tryz.prog 16 #[.pointer (some ⟨sg,0,none⟩),.agg #[.int .u8 3,.slice (some ⟨w11.heap.size,0,none⟩) 1 1,.string ⟨#[]⟩]] X11 (ShX w X11 sg g (fun _=>False) (.tuple #[.int .u32 0,.int .i64 8]) s0)):=hid (by exact Qar hm0 F.out.k0 (by decide) nK5 (some ⟨w11.heap.size,0,none⟩) 1 Qlx hseg (by decide) F.out.e3 (by decide));clear hg0 hseg hX hm0;go_wp2_with fail
 rw[HX.out];refine HP.out.mono ?_;rintro e w12 ⟨rfl,hm,-⟩;have HS12:=hid hm;clear hm HP HS11 HX
 try dsimp only
 have HP:Hid (Calls Tryz.prog 16 #[.pointer (some ⟨sg,0,none⟩),.agg #[.int .u8 3,.slice none 0 0,.string R1]] w12 (ShX w w12 sg g (fun _=>False) (.tuple #[.int .u32 0,.int .i64 3]) s0)):=hid (by rw[←HR1.out];exact Qar HS12.out F.out.k0 (by decide) nB none 0 nB_ok (Q9 w12) (by show(rep _ _).length≤_;rw[QbB];decide) F.out.e4 (by decide));go_wp2_with (first|(go_at_call 17;refine(HTA.out _).mono ?_;rintro e wt ⟨rfl,rfl⟩)|fail)
 refine HP.out.mono ?_;rintro e w13 ⟨rfl,hm,-⟩;have HS13:=hid hm;clear hm HP HS12
 try dsimp only
 have HP:Hid (Calls Tryz.prog 16 #[.pointer (some ⟨sg,0,none⟩),.agg #[.int .u8 3,.slice none 0 0,.string R0]] w13 (ShX w w13 sg g (fun _=>False) (.tuple #[.int .u32 3,.int .i64 0]) (mA s0))):=hid (by rw[←HR0.out];exact Qbs HS13.out F.out.k0 (by decide) nA none 0 nA_ok (Q9 w13) (by show(rep _ _).length≤_;rw[QbB];decide) F.out.e5 F.out.f0);go_wp2_with (first|(go_at_call 17;refine(HTB.out _).mono ?_;rintro e wt ⟨rfl,rfl⟩)|fail)
 refine HP.out.mono ?_;rintro e w14 ⟨rfl,hm,-⟩;have HS14:=hid hm;clear hm HP HS13
 try dsimp only
 have hg0:=Qb w14 (.cells #[.int .u32 3] 35);have hseg:Ws.Seg (w14.alloc (.cells #[.int .u32 3] 35)) (some ⟨w14.heap.size,0,none⟩) 1 1 [3]:=lit32 w14 3;obtain⟨X14,hX⟩:∃X,w14.alloc (.cells #[.int .u32 3] 35)=X:=⟨_,rfl⟩;rw[hX]at hg0 hseg;have HX:=hid hX;have hm0:=HS14.out.go hg0;have HP:Hid (Calls Tryz.prog 16 #[.pointer (some ⟨sg,0,none⟩),.agg #[.int .u8 3,.slice (some ⟨w14.heap.size,0,none⟩) 1 1,.string ⟨#[]⟩]] X14 (ShX w X14 sg g (fun _=>False) (.tuple #[.int .u32 4,.int .i64 0]) (mB s0))):=hid (by exact Qbs hm0 F.out.kA (by decide) nK3 (some ⟨w14.heap.size,0,none⟩) 1 Qf0 hseg (by decide) F.out.e6 F.out.fA);clear hg0 hseg hX hm0;go_wp2_with fail
 rw[HX.out];refine HP.out.mono ?_;rintro e w15 ⟨rfl,hm,-⟩;have HS15:=hid hm;clear hm HP HS14 HX
 try dsimp only
 have HP:=hid (Qld HS15.out F.out.markB);go_wp2_with fail
 refine HP.out.mono ?_;rintro e w16 ⟨rfl,hm,-⟩;have HS16:Hid (Sh w w16 sg g (fun _=>False) (mC s0)):=hid hm;clear hm HP HS15
 try dsimp only
 have HP:=hid (QhM (m:=(mB s0).now) HS16.out rfl);go_wp2_with fail
 refine HP.out.mono ?_;rintro e w17 ⟨rfl,rfl⟩;clear HP
 try dsimp only
 have HP:Hid (Calls Tryz.prog 16 #[.pointer (some ⟨sg,0,none⟩),.agg #[.int .u8 5,.slice none 0 0,.string ⟨#[]⟩]] w16 (ShX w w16 sg g (fun _=>False) (.tuple #[.int .u32 5,.int .i64 0]) (mD s0))):=hid (by exact Qbs HS16.out F.out.kC (by decide) n5 none 0 n5_ok (Q9 w16) (by decide) F.out.e7 F.out.fC);go_wp2_with fail
 refine HP.out.mono ?_;rintro e w18 ⟨rfl,hm,-⟩;have HS18:=hid hm;clear hm HP HS16
 try dsimp only
 have HP:Hid (Calls Tryz.prog 19 #[.pointer (some ⟨sg,0,none⟩),.int .u32 4] w18 (ShX w w18 sg g (fun _=>False) (.int .i64 0) (mE s0))):=hid (Qg3 HS18.out F.out.kD 4 [5] (fun m=>rfl) F.out.dE.1 F.out.dE.2);go_wp2_with fail
 refine HP.out.mono ?_;rintro e w19 ⟨rfl,hm,-⟩;have HS19:=hid hm;clear hm HP HS18
 try dsimp only
 have HP:Hid (Calls Tryz.prog 20 #[.pointer (some ⟨sg,0,none⟩)] w19 fun e w'=>e=.returned (.int .i64 6)∧w19=w'):=hid (QbC HS19.out (n:=6) F.out.fE);go_wp2_with fail
 refine HP.out.mono ?_;rintro e wt ⟨rfl,rfl⟩;clear HP
 try dsimp only
 have HP:=hid (Qlc (m:=(mB s0).now) HS19.out rfl);go_wp2_with fail
 refine HP.out.mono ?_;rintro e w20 ⟨rfl,hm,-⟩;have HS20:Hid (Sh w w20 sg g (fun _=>False) (mF s0)):=hid hm;clear hm HP HS19
 try dsimp only
 have HP:=hid (QhK HS20.out rfl);go_wp2_with fail
 refine HP.out.mono ?_;rintro e w21 ⟨rfl,rfl⟩;clear HP
 try dsimp only
 have HP:Hid (Calls Tryz.prog 20 #[.pointer (some ⟨sg,0,none⟩)] w20 fun e w'=>e=.returned (.int .i64 7)∧w20=w'):=hid (QbC HS20.out (n:=7) F.out.fF);go_wp2_with fail
 refine HP.out.mono ?_;rintro e wt ⟨rfl,rfl⟩;clear HP
 try dsimp only
 have HP:Hid (Calls Tryz.prog 23 #[.pointer (some ⟨sg,0,none⟩),.int .u32 3] w20 fun e w'=>e=.returned (.int .i64 1)∧w20=w'):=hid ((by have h1:=Qbg HS20.out 3 (by decide);rw[F.out.cF.now,show N2.getD 3 0=1 from rfl]at h1;exact h1));go_wp2_with fail
 refine HP.out.mono ?_;rintro e wt ⟨rfl,rfl⟩;clear HP
 try dsimp only
 have HP:Hid (Calls Tryz.prog 23 #[.pointer (some ⟨sg,0,none⟩),.int .u32 4] w20 fun e w'=>e=.returned (.int .i64 1)∧w20=w'):=hid ((by have h1:=Qbg HS20.out 4 (by decide);rw[F.out.cF.now,show N2.getD 4 0=1 from rfl]at h1;exact h1));go_wp2_with fail
 refine HP.out.mono ?_;rintro e wt ⟨rfl,rfl⟩;clear HP
 try dsimp only
 have HP:Hid (Calls Tryz.prog 23 #[.pointer (some ⟨sg,0,none⟩),.int .u32 5] w20 fun e w'=>e=.returned (.int .i64 0)∧w20=w'):=hid ((by have h1:=Qbg HS20.out 5 (by decide);rw[F.out.cF.now,show N2.getD 5 0=0 from rfl]at h1;exact h1));go_wp2_with fail
 refine HP.out.mono ?_;rintro e wt ⟨rfl,rfl⟩;clear HP
 try dsimp only
 have HP:Hid (Calls Tryz.prog 23 #[.pointer (some ⟨sg,0,none⟩),.int .u32 2] w20 fun e w'=>e=.returned (.int .i64 1)∧w20=w'):=hid ((by have h1:=Qbg HS20.out 2 (by decide);rw[F.out.cF.now,show N2.getD 2 0=1 from rfl]at h1;exact h1));go_wp2_with fail
 refine HP.out.mono ?_;rintro e wt ⟨rfl,rfl⟩;clear HP
 try dsimp only
 have HLP:=hid (LpI.start F.out.kF F.out.cF F.out.fF);have HRT2:Hid ((mF s0).sup.root=0∧(mF s0).sup.gen=1):=hid HRT.out;obtain⟨sF,hsF⟩:∃s,mF s0=s:=⟨_,rfl⟩;rw[hsF]at HLP HRT2 HS20;clear hsF;obtain⟨sup,hsup⟩:∃u,sF.sup=u:=⟨_,rfl⟩;rw[hsup]at HLP HRT2;clear hsup;go_wp2
 go_loopw [36,37] (fun sk si wx=>∃(i k:Nat) (s:SpS),i≤20∧sk=.int .i64 (k:Int)∧si=.int .i64 (i:Int)∧k≤20∧Hid (Sh w wx sg g (fun _=>False) s)∧Hid (LpI s sup i k)) (fun _ si _=>20-(intOf si).toNat)
 case atStart=>exact⟨0,0,sF,Nat.zero_le _,rfl,rfl,Nat.zero_le _,HS20,HLP⟩
 case round=>
 clear HS20 HLP;obtain⟨i,k,s,hi20,rfl,rfl,hk20,HS,HL⟩:=hrel;by_cases hlt:i<20
 case pos=>
  have hq:decide ((i:Int)<20)=true:=decide_eq_true (by omega);have HP:=hid (put_l HS.out HL.out hi20);go_wp2_with fail
  refine HP.out.mono ?_;rintro e wq ⟨v1,v2,s',k',rfl,hm,hl,hor⟩;have HM:=hid hm;have HL2:=hid hl;have hk':k'≤20:=by rcases hl.few with ⟨z,_⟩|⟨z,_⟩ <;> omega
  clear hm hl HP;rcases hor with ⟨rfl,rfl⟩|⟨rfl,rfl⟩
  all_goals
   try dsimp only
   go_wp2;go_roundw
   case rel=>exact⟨i+1,_,s',by omega,by go_num,by go_num,by omega,HM,HL2⟩
   case measure=>simp[intOf];omega
 case neg=>
  have hq:decide ((i:Int)<20)=false:=decide_eq_false (by omega);obtain rfl:20=i:=by omega
  obtain rfl:k=14:=by rcases HL.out.few with ⟨_,z,_⟩|⟨z,_⟩ <;> omega
  have HEN:=hid (Qlu HL.out);have HSZ:Hid (s.dv.size=128):=hid HL.out.size;have HSU:Hid (s.sup.root=0∧s.sup.gen=1):=hid (by rw[HL.out.sup_];exact HRT2.out);have HAB:=hid (Qgn HS.out);clear hi20 hk20 hlt HL HRT2;go_wp2_with fail
  refine HAB.out.mono ?_;rintro e wa ⟨rfl,hm,-⟩;have HSA:=hid hm;have HGT:=hid (Qer hm HEN.out.pgs 3 (by decide));have HGE:=hid HEN.out.get;obtain⟨sE,hsE⟩:∃s',({ s with now:=s.held,mark:=none }:SpS)=s':=⟨_,rfl⟩;have HSU2:Hid (sE.sup.root=0∧sE.sup.gen=1∧sE.dv.size=128):=hid (by rw[←hsE];exact⟨HSU.out.1,HSU.out.2,HSZ.out⟩);rw[hsE]at HSA HGT HGE HEN;clear hm HAB HS hsE
  try dsimp only
  go_wp2_with fail
  refine HGT.out.mono ?_;rintro e wb ⟨hg,hx⟩;rcases hx with ⟨-,rfl⟩|⟨_,_,_,h0,_⟩
  rotate_left
  ·rw[HGE.out]at h0;cases h0
  rw[HGE.out];have HCB:=hid (heap_alloc_new wb (.cells #[.int .u8 0,.slice none 0 0,.string ⟨#[]⟩] 40));have HGB:=hid (Qa hg (Qb wb (.cells #[.int .u8 0,.slice none 0 0,.string ⟨#[]⟩] 40)));have HZB:=hid hg.size;have HFR:=hid (fun W (k:wa.grownBy W none)=>QbC (HSA.out.go k) (n:=9) HEN.out.fr);have HRM:Hid (∀(k v:Int),(-9223372036854775808≤k∧k≤9223372036854775807)→roomP 128 k=v→∀W,wa.grownBy W none→Calls Tryz.prog 26 #[.pointer (some ⟨sg,0,none⟩),.int .i64 k] W fun e w'=>e=.returned (.int .i64 v)∧W.grownBy w' none):=hid (fun k v hk hv W q=>by
   have h1:=Qlf (HSA.out.go q) k hk;rw[HSU2.out.2.2,show roomP ((128:Nat):Int) k=v from hv]at h1;exact h1)
  have HC99:Hid (∀W,wa.grownBy W none→Calls Tryz.prog 27 #[.pointer (some ⟨sg,0,none⟩),.int .u32 99] W fun e w'=>e=.returned (.int .i64 2)∧W=w'):=hid (fun W k=>Qcf (HSA.out.go k) 99 (by decide) HEN.out.pgs HEN.out.com99 (by decide));have HC5:Hid (∀W,wa.grownBy W none→Calls Tryz.prog 27 #[.pointer (some ⟨sg,0,none⟩),.int .u32 5] W fun e w'=>e=.returned (.int .i64 8)∧W=w'):=hid (fun W k=>Qcf (HSA.out.go k) 5 (by decide) HEN.out.pgs HEN.out.com5 (by decide));have HSR:Hid (∀W,wa.grownBy W none→Calls Tryz.prog 28 #[.pointer (some ⟨sg,0,none⟩),.int .u32 2] W (ShX w W sg g (fun _=>False) (.int .i64 2) sE)):=hid (fun W k=>by
   have h1:=QdH (HSA.out.go k) HEN.out.pgs 2 (by decide) (by rw[HEN.out.use2];decide);rw[HEN.out.use2]at h1;exact h1)
  have HRO:Hid (∀W,Sh w W sg g (fun _=>False) sE→Calls Tryz.prog 29 #[.pointer (some ⟨sg,0,none⟩)] W fun e w'=>e=.returned (.int .u32 0)∧W=w'):=hid (fun W h=>by
   have h1:=Qg4 h;rw[HSU2.out.1]at h1;exact h1)
  have HGN:Hid (∀W,Sh w W sg g (fun _=>False) sE→Calls Tryz.prog 30 #[.pointer (some ⟨sg,0,none⟩)] W fun e w'=>e=.returned (.int .u64 1)∧W=w'):=hid (fun W h=>by
   have h1:=QiK h;rw[HSU2.out.2.1]at h1;exact h1)
  have HDN:=hid (fun W=>drop_nil 2 W);have HFN0:=hid Qjn;have HCN:=hid (fun W=>Qhe 0 W);clear hg HGT;dsimp only[zeroPg];go_wp2_with (first
   |(with_reducible refine Qt rfl (.tmp 41) (.tmp 247) rfl wb.heap.size rfl (.int .u8 0) (.slice none 0 0) (.string ⟨#[]⟩) rfl rfl rfl rfl _ _ _ HCB.out ?_;intro wc hqc htc;have HGC:=hid (Qj HGB.out htc HZB.out);clear hqc htc)
   |fail)
  refine(HFR.out wc HGC.out).mono ?_;rintro e wt ⟨rfl,rfl⟩;go_wp2_with fail
  refine(HRM.out 0 110 (by decide) (by decide) _ HGC.out).mono ?_;rintro e wr1 ⟨rfl,hg⟩;have HGR1:=hid (Qa HGC.out hg);clear hg;go_wp2_with fail
  refine(HRM.out 27 2 (by decide) (by decide) _ HGR1.out).mono ?_;rintro e wr2 ⟨rfl,hg⟩;have HGR2:=hid (Qa HGR1.out hg);clear hg;go_wp2_with fail
  refine(HRM.out 28 0 (by decide) (by decide) _ HGR2.out).mono ?_;rintro e wr3 ⟨rfl,hg⟩;have HGR3:=hid (Qa HGR2.out hg);clear hg;go_wp2_with fail
  refine(HRM.out (-1) 0 (by decide) (by decide) _ HGR3.out).mono ?_;rintro e wr4 ⟨rfl,hg⟩;have HGR4:=hid (Qa HGR3.out hg);clear hg;go_wp2_with fail
  refine(HFN0.out _).mono ?_;rintro e wt ⟨rfl,rfl⟩;go_wp2_with fail
  refine(HCN.out _).mono ?_;rintro e wt ⟨rfl,rfl⟩;go_wp2_with fail
  refine(HDN.out _).mono ?_;rintro e wh ⟨rfl,hg⟩;have HGH:=hid (Qa HGR4.out hg);clear hg;go_wp2_with fail
  refine(HC99.out _ HGH.out).mono ?_;rintro e wt ⟨rfl,rfl⟩;go_wp2_with fail
  refine(HC5.out _ HGH.out).mono ?_;rintro e wt ⟨rfl,rfl⟩;go_wp2_with fail
  refine(HSR.out _ HGH.out).mono ?_;rintro e wi ⟨rfl,hm,-⟩;have HSI:=hid hm;clear hm;go_wp2_with fail
  refine(HRO.out _ HSI.out).mono ?_;rintro e wt ⟨rfl,rfl⟩;go_wp2_with fail
  refine(HGN.out _ HSI.out).mono ?_;rintro e wt ⟨rfl,rfl⟩;have HX:=hid HSI.out.gr;go_wp2;go_ret
  exact⟨rfl,HX.out⟩
end Sp
end Go.Proofs.YtbbbocoliandcaaGreatDoor
