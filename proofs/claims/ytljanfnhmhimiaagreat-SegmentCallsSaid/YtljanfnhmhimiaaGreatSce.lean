/- Parts of the proof. -/
import Derived.Test.YtljanfnhmhimiaaGreatScK
import Derived.Test.YtljanfnhmhimiaaGreatScP
import Derived.Test.YtljanfnhmhimiaaGreatScb
set_option maxRecDepth 100000
set_option maxHeartbeats 8000000
open Go.Lib (hid)
namespace Go.Proofs.YtljanfnhmhimiaaGreat
namespace In
open Go.RowKit Go.Joins
open Is (IsI)
open Pk (PutF Turn.then QW)
open Dv (Turn nowhere)
theorem Qpd{w w':World}{E:Int}{B:List Int}{m:Nat}{e:Ending}(hm:B.length=m)(h:PartE w E B e w'):PutF w m E B e w':=by
 obtain⟨a,m',k,he,hm',hs,hb⟩:=h;obtain rfl:m'=m:=hm'.trans hm;exact⟨a,k,he,hs,Qd hb⟩
theorem Qbd{l:List Int}{E:Int}{B:List Int}{m:Nat}(hR:tooMany l (bestB l)=(E,B))(hm:B.length=m)(hI:IsI l)(a:Option Addr)(n c:Nat)(W:World)(hs:Is.Seg W a n c l) :
  Calls Tryz.prog 95 #[.slice a n c] W (PutF W m E B):=
 (Qc4 a n c l W hs hI).mono fun e w' h=>by unfold PutE at h;rw[hR]at h;exact Qpd hm h
def GotF(w:World)(m:Nat)(E:Int)(L:List Int)(e:Ending)(w':World):Prop:=
 ∃a k,e=.returned (.tuple #[.slice a m k,.int .i64 E])∧Is.Seg w' a m k L∧Turn w w' nowhere
theorem QaP{bs:List Int}{E:Int}{L:List Int}{m:Nat}(hR:getI bs=(E,L))(hm:L.length=m)(hb:Oct.IsB bs)(hn:bs.length≤100000000)(a:Option Addr)(n c:Nat)(W:World)(hs:Bs.Seg W a n c bs) :
  Calls Tryz.prog 97 #[.slice a n c] W (GotF W m E L):=
 (Qc2 a n c bs W hs hb (by rw[←hs.len];exact hn)).mono fun e w' h=>by
  rw[hR]at h;obtain⟨a',k,he,h1,h2⟩:=h;subst hm;exact⟨a',k,he,h1,Qd h2⟩
theorem Qch{a b:ByteArray}(h:a≠b):¬a.toList=b.toList:=by
 rw[Go.ByteArray.toList_eq,Go.ByteArray.toList_eq];intro e;apply h
 obtain⟨⟨a⟩⟩:=a;obtain⟨⟨b⟩⟩:=b;simp at e;rw[e]
theorem Qe1{l:List Int}{e:List Int}(h:l.length≤4096):tooMany l e=(0,e):=by unfold tooMany;rw[if_neg (by omega)]
theorem Qba(k:Nat)(l:List Int)(hl:l.length≤4096):0<(encB k l).length∧(encB k l).length≤2000000:=by
 have hb:=QbR k l (by omega);have hv:=Oct.QE 9 (l.length:Int);unfold encB headB;rw[List.length_append,List.length_cons];omega
end In
namespace In
open Go.RowKit Go.Joins
open Is (IsI)
open Bs (Qj)
open Ref1 (GrowB)
open Oct (varB putB)
open Pk (PutF)
end In
namespace In
open Go.RowKit Go.Joins
open Is (IsI)
open Bs (Qj)
open Ref1 (GrowB)
open Oct (varB putB)
theorem Qfg{w w':World}{base g n c:Nat}{B:List Int}(h:w'.ownsRow base 5 1 (.slice (some ⟨g,0,none⟩) n c) n (B.map (Value.int .u8)))(hb:Below w.heap.size w w') :
  PartE w 0 B (.returned (.tuple #[.slice (some ⟨g,0,none⟩) n c,.int .i64 0])) w':=by
 have hs:=Bs.Seg.own h;exact⟨_,n,c,rfl,hs.len.symm,hs,hb⟩
theorem QaF(k:Nat)(n:Nat)(w:World)(hn:n≤65536) :
  Calls Tryz.prog 152 #[.int .u8 k,.int .i64 n] w (GrowB w.heap.size w (headB k n) (1+(varB 9 (n:Int)).length)):=by
 have hlit:=World.ownsRow_lit (base:=w.heap.size) (e:=5) (size:=1) w #[.int .u8 (k:Int)] 1 (Nat.le_refl _) (by unfold maxLen;omega) rfl;have HP:=hid (Qao w.heap.size (.slice (some ⟨w.heap.size,0,none⟩) 1 1) 1 [(k:Int)] (n:Int) (w.alloc (.cells #[.int .u8 (k:Int)] 5)) hlit (by simp) (by omega) (by omega) (by decide));have hA:Below w.heap.size w (w.alloc (.cells #[.int .u8 (k:Int)] 5)):=(Below.refl _ w).alloc (Nat.le_refl _) _;have HA:=hid hA;have hu:=Qpy hn;obtain⟨vl,hvl⟩:∃x,(varB 9 (n:Int)).length=x:=⟨_,rfl⟩;rw[hvl]at HP;rw[hvl];clear hlit hA hvl;go_enter Tryz.func152,Tryz.ntmps152
 go_wp2_with fail
 refine HP.out.mono ?_;rintro e w1 ⟨g,c,rfl,hown,hb⟩;have HF:Hid (GrowB w.heap.size w (headB k n) (1+vl) (.returned (.slice (some ⟨g,0,none⟩) (1+vl) c)) w1):=hid ⟨g,c,rfl,hown,HA.out.trans hb⟩;clear hown hb;dsimp only;go_wp2;go_ret
 exact HF.out
theorem QcA(v:Int):IntKind.u64.wrap v=u v:=by rw[IntKind.wrap_u64];rfl
theorem Qbf(a:Option Addr)(n c:Nat)(l:List Int)(w:World)(hs:Is.Seg w a n c l) :
  Calls Tryz.prog 121 #[.slice a n c] w (PutE w (tooMany l (encB 1 l))):=by
 unfold PutE tooMany;by_cases hn:4096<n
 ·rw[if_pos (by rw[hs.len];exact hn)];have HF:Hid (PartE w 3 [] (.returned (.tuple #[.slice none 0 0,.int .i64 3])) w):=hid ⟨none,0,0,rfl,rfl,Bs.Seg.nil _,Below.refl _ w⟩;clear hs;go_enter Tryz.func121,Tryz.ntmps121
  go_wp2;go_ret2
  exact HF.out
 ·rw[if_neg (by rw[hs.len];exact hn)];have hn4:n≤4096:=by omega
  have HLen:=hid hs.len;have HSeg:=hid hs;have HHead:=hid (QaF 1 n w (by omega));have hvl:=Oct.QE 9 (n:Int);obtain⟨h0,hh0⟩:∃x,1+(varB 9 (n:Int)).length=x:=⟨_,rfl⟩;rw[hh0]at HHead;have hb0:h0≤11:=by omega
  have HEnc:Hid (encB 1 l=headB 1 n++plainB l):=hid (by unfold encB;rw[hs.len];rfl);clear hs hn hvl hh0;go_enter Tryz.func121,Tryz.ntmps121
  go_wp2_with fail
  refine HHead.out.mono ?_;rintro e w1 ⟨g1,c1,rfl,hown1,hb1⟩;have O1:=hid hown1;have B1:=hid hb1;clear hown1 hb1 HHead;dsimp only;go_wp2
  go_loopw [4,5] (fun so si wr=>∃(k:Nat) (V:Value),k≤n∧si=.int .i64 k∧V=so∧Hid (∃g cc,V=.slice (some ⟨g,0,none⟩) (h0+8*k) cc)∧Hid (wr.ownsRow w.heap.size 5 1 V (h0+8*k) ((headB 1 n++plainB (l.take k)).map (Value.int .u8)))∧Hid (Below w.heap.size w wr)) (fun _ si _=>n-(intOf si).toNat)
  case atStart=>exact⟨0,_,Nat.zero_le _,rfl,rfl,hid ⟨_,_,rfl⟩,hid (by simpa [plainB] using O1.out),B1⟩
  case round=>
   obtain⟨k,V,hk,rfl,rfl,HV,HO,HB⟩:=hrel;by_cases hlt:k<n
   ·have hseg:=Q7 HSeg.out HB.out rfl;obtain⟨gA,oA,rfl,hc⟩:=hseg.addr (by omega);have g2:=hc k hlt;obtain⟨x,hx⟩:∃x,l.getD k 0=x:=⟨_,rfl⟩;rw[hx]at g2;have HP:=hid (QgD l k x (by have:=HLen.out;omega) hx);have hux:=QcA x;have hub:=u_bd x;have HN:=hid (Ref1.Qay w.heap.size V (h0+8*k) _ (u x) 8 wr HO.out HB.out.size hub.1 hub.2 (by decide) (by decide) (by omega));clear hx hc hseg hub;go_wp2_with fail
    refine HN.out.mono ?_;rintro e w2 ⟨g,cc,rfl,hown,hbel⟩;have HO1:Hid (w2.ownsRow w.heap.size 5 1 (.slice (some ⟨g,0,none⟩) (h0+8*k+8) cc) (h0+8*(k+1)) ((headB 1 n++plainB (l.take (k+1))).map (Value.int .u8))):=hid (by rw[HP.out,←List.append_assoc];exact hown);have HB1:=hid (HB.out.trans hbel);clear hown hbel;dsimp only;go_wp2;go_roundw
    case rel=>exact⟨k+1,_,by omega,by go_num,rfl,hid ⟨_,_,rfl⟩,HO1,HB1⟩
    case measure=>simp[intOf];omega
   ·obtain rfl:k=n:=by omega
    obtain⟨g,cc,rfl⟩:=HV.out;have HF:Hid (PartE w 0 (encB 1 l) (.returned (.tuple #[.slice (some ⟨g,0,none⟩) (h0+8*k) cc,.int .i64 0])) wr):=by
     have:=HO.out;rw[List.take_of_length_le (Nat.le_of_eq HLen.out),←HEnc.out]at this;exact hid (Qfg this HB.out)
    go_wp2;go_ret2
    exact HF.out
end In
namespace In
open Go.RowKit Go.Joins
open Is (IsI)
open Bs (Qj)
open Ref1 (GrowB)
open Oct (varB putB)
theorem rruns_any (a : Option Addr) (n c : Nat) (l : List Int) (w : World) (hs : Is.Seg w a n c l) :
    Calls Tryz.prog 122 #[.slice a n c] w (PutE w (tooMany l (encB 2 l))) := by
  unfold PutE tooMany
  by_cases hn : 4096 < n
  · rw [if_pos (by rw [hs.len]; exact hn)]
    have HF : Hid (PartE w 3 [] (.returned (.tuple #[.slice none 0 0, .int .i64 3])) w) := Lib.hid ⟨none, 0, 0, rfl, rfl, Bs.Seg.nil _, Below.refl _ w⟩
    clear hs
    go_enter Tryz.func122, Tryz.ntmps122
    go_wp2
    go_ret2
    exact HF.out
  · rw [if_neg (by rw [hs.len]; exact hn)]
    have hn4 : n ≤ 4096 := by omega
    have HLen := Lib.hid hs.len
    have HSeg := Lib.hid hs
    have HHead := Lib.hid (QaF       2 n w (by omega))
    have hvl := Oct.QE      9 (n : Int)
    obtain ⟨h0, hh0⟩ : ∃ x, 1 + (varB 9 (n : Int)).length = x := ⟨_, rfl⟩
    rw [hh0] at HHead
    have hb0 : h0 ≤ 11 := by omega
    have HEnc : Hid (encB 2 l = headB 2 n ++ bytesR (rle l)) := Lib.hid (by unfold encB; rw [hs.len]; rfl)
    have HH0 := Lib.hid hb0
    clear hs hn hvl hh0
    go_enter Tryz.func122, Tryz.ntmps122
    go_wp2_with fail
    refine HHead.out.mono ?_
    rintro e w1 ⟨g1, c1, rfl, hown1, hb1⟩
    have O1 := Lib.hid hown1
    have B1 := Lib.hid hb1
    clear hown1 hb1 HHead
    dsimp only
    go_wp2
    go_loopg [4, 5] n (fun gh so si wr => ∃ (i N : Nat) (d : List (Nat × Int)) (V : Value), i + gh = n ∧ si = .int .i64 i ∧ V = so ∧ Hid (∃ g cc, V = .slice (some ⟨g, 0, none⟩) N cc) ∧ Hid (N ≤ h0 + 18 * i ∧ d ++ rle (l.drop i) = rle l) ∧ Hid (wr.ownsRow w.heap.size 5 1 V N ((headB 2 n ++ bytesR d).map (Value.int .u8))) ∧ Hid (Below w.heap.size w wr))
    case atStart => exact ⟨0, h0, [], _, by omega, rfl, rfl, Lib.hid ⟨_, _, rfl⟩, Lib.hid ⟨by omega, rfl⟩, Lib.hid (by simpa [bytesR] using O1.out), B1⟩
    case round =>
      obtain ⟨i, N, d, V, hi, rfl, rfl, HV, HD, HO, HB⟩ := hrel
      cases gk with
      | zero =>
        obtain rfl : i = n := by omega
        obtain ⟨g, cc, rfl⟩ := HV.out
        have HF : Hid (PartE w 0 (encB 2 l) (.returned (.tuple #[.slice (some ⟨g, 0, none⟩) N cc, .int .i64 0])) wr) := by
          have h := HO.out
          have h2 := HD.out.2
          rw [List.drop_eq_nil_of_le (by rw [HLen.out]; exact Nat.le_refl _)] at h2
          rw [show d = rle l from by simpa [rle] using h2, ← HEnc.out] at h
          exact Lib.hid (Qfg       h HB.out)
        go_wp2
        go_ret2
        exact HF.out
      | succ m =>
        have hin : i < n := by omega
        have hseg := Q7         HSeg.out HB.out rfl
        obtain ⟨gA, oA, rfl, hc⟩ := hseg.addr (by omega)
        have g2 := hc i hin
        obtain ⟨x0, hx0⟩ : ∃ x, l.getD i 0 = x := ⟨_, rfl⟩
        rw [hx0] at g2
        have HX0 := Lib.hid hx0
        have HC := Lib.hid hc
        clear hx0 hc hseg
        go_wp2
        go_loopw [6] (fun sk wx => ∃ (k q : Nat), i ≤ k ∧ k ≤ n ∧ sk = .int .i64 k ∧ wx = wr.drewN q ∧ Hid (i < k ∨ k = i) ∧ Hid (∀ j, i ≤ j → j < k → l.getD j 0 = x0)) (fun sk _ => n - (intOf sk).toNat)
        case atStart => exact ⟨i, 0, Nat.le_refl _, by omega, rfl, rfl, Lib.hid (.inr rfl), Lib.hid (fun j h1 h2 => by omega)⟩
        case round =>
          obtain ⟨k, q, hik, hkn, rfl, rfl, HI, HE⟩ := hrel
          by_cases hcont : k < n ∧ l.getD k 0 = x0
          · obtain ⟨hkn2, hx⟩ := hcont
            have g3 := HC.out k hkn2
            rw [hx] at g3
            have HE1 : Hid (∀ j, i ≤ j → j < k + 1 → l.getD j 0 = x0) := Lib.hid (fun j h1 h2 => by
              by_cases h : j < k
              · exact HE.out j h1 h
              · rw [show j = k from by omega]; exact hx)
            clear hx
            go_wp2
            go_quiet (fail)
            go_wp2
            go_roundw
            case rel => exact ⟨k + 1, q + nq, by omega, by omega, by go_num, by simp, Lib.hid (.inl (by omega)), HE1⟩
            case measure => simp [intOf]; omega
          · have hik2 : i < k := by
              rcases HI.out with h | h
              · exact h
              · exact absurd ⟨by omega, by rw [h]; exact HX0.out⟩ hcont
            have hex : k = n ∨ l.getD k 0 ≠ x0 := by
              by_cases h : k < n
              · exact .inr fun e => hcont ⟨h, e⟩
              · exact .inl (by omega)
            have hex2 : ¬ k < n ∨ (k < n ∧ ∃ y, l.getD k 0 = y ∧ ¬ y = x0) := by
              by_cases h : k < n
              · exact .inr ⟨h, _, rfl, fun e => hcont ⟨h, e⟩⟩
              · exact .inl h
            obtain ⟨R, hR⟩ : ∃ R, R = k - i := ⟨_, rfl⟩
            have hvl := Oct.QE      9 (R : Int)
            obtain ⟨vl, hvle⟩ : ∃ x, (varB 9 (R : Int)).length = x := ⟨_, rfl⟩
            rw [hvle] at hvl
            have HVL := Lib.hid hvle
            have HRle : Hid (rle (l.drop i) = (R, x0) :: rle (l.drop k)) := Lib.hid (by
              have h := Ql5    l i k hik2 (by rw [HLen.out]; exact hkn) (fun j h1 h2 => by rw [HE.out j h1 h2, HX0.out]) (by rw [HLen.out, HX0.out]; exact hex)
              rw [HX0.out, ← hR] at h
              exact h)
            have HK := Lib.hid (show i < k ∧ k ≤ n ∧ R + i = k ∧ vl ≤ 10 from by omega)
            have hRk : (R : Int) = (k : Int) - (i : Int) := by omega
            have HRk := Lib.hid hRk
            clear hcont hex hvl hvle hR hRk
            rcases hex2 with hkn3 | ⟨hkn3, y, hy, hyx⟩
            · go_wp2
              go_quiet (fail)
              go_wp2_with fail
              have hRk := HRk.out
              have HO2 : Hid ((wr.drewN (q + nq)).ownsRow w.heap.size 5 1 V N ((headB 2 n ++ bytesR d).map (Value.int .u8))) := Lib.hid HO.out
              have HB2 : Hid (Below w.heap.size w (wr.drewN (q + nq))) := Lib.hid (Bs.below_drewN _ HB.out)
              have HPV : Hid (Calls Tryz.prog 44 #[V, .int .u64 ((k : Int) - (i : Int))] (wr.drewN (q + nq)) (GrowB w.heap.size (wr.drewN (q + nq)) (headB 2 n ++ bytesR d ++ varB 9 (R : Int)) (N + vl))) := Lib.hid (by
                have h := Qao         w.heap.size V N _ ((k : Int) - (i : Int)) _ HO2.out HB2.out.size (by omega) (by omega) (by have := HD.out.1; omega)
                rw [show (k : Int) - (i : Int) = (R : Int) from by omega, HVL.out] at h
                rw [show (k : Int) - (i : Int) = (R : Int) from by omega]
                exact h)
              clear hRk
              refine HPV.out.mono ?_
              rintro e w2 ⟨g3', cc3, rfl, hown3, hb3⟩
              have HB3 : Hid (Below w.heap.size w w2) := Lib.hid (HB2.out.trans hb3)
              have HO3 := Lib.hid hown3
              have gcell : w2.cell? ⟨gA, oA + i, none⟩ = some (.int .i64 x0) := by
                obtain ⟨gA', oA', e, hc⟩ := (Q7         HSeg.out HB3.out rfl).addr (by omega)
                cases e
                have := hc i hin
                rwa [HX0.out] at this
              have hub := u_bd x0
              have hux := QcA    x0
              have HP8 := Lib.hid (Ref1.Qay      w.heap.size (.slice (some ⟨g3', 0, none⟩) (N + vl) cc3) (N + vl) _ (u x0) 8 w2 HO3.out HB3.out.size hub.1 hub.2 (by decide) (by decide) (by have := HD.out.1; have := HK.out; omega))
              clear hown3 hb3 HPV HO2 HB2 hub
              dsimp only
              go_wp2_with fail
              refine HP8.out.mono ?_
              rintro e w4 ⟨g4, cc4, rfl, hown4, hb4⟩
              have HO4 : Hid (w4.ownsRow w.heap.size 5 1 (.slice (some ⟨g4, 0, none⟩) (N + vl + 8) cc4) (N + vl + 8) ((headB 2 n ++ bytesR (d ++ [(R, x0)])).map (Value.int .u8))) := Lib.hid (by
                rw [QdJ        ]
                have h := hown4
                rw [List.append_assoc, List.append_assoc] at h
                rw [List.append_assoc]
                exact h)
              have HB4 : Hid (Below w.heap.size w w4) := Lib.hid (HB3.out.trans hb4)
              clear hown4 hb4 HP8 HO3 HB3
              dsimp only
              go_wp2
              go_roundg (n - k)
              case rel =>
                obtain ⟨h1, h2⟩ := HD.out
                obtain ⟨k1, k2, k3, k4⟩ := HK.out
                exact ⟨k, N + vl + 8, d ++ [(R, x0)], _, by omega, rfl, rfl, Lib.hid ⟨_, _, rfl⟩, Lib.hid ⟨by omega, by rw [List.append_assoc, List.singleton_append, ← HRle.out, h2]⟩, HO4, HB4⟩
              case measure => have := HK.out; omega
            · have g3 := HC.out k hkn3
              rw [hy] at g3
              have hyb : (y == x0) = false := by simpa using hyx
              go_wp2
              go_quiet (fail)
              clear g3
              go_wp2_with fail
              have hRk := HRk.out
              have HO2 : Hid ((wr.drewN (q + nq)).ownsRow w.heap.size 5 1 V N ((headB 2 n ++ bytesR d).map (Value.int .u8))) := Lib.hid HO.out
              have HB2 : Hid (Below w.heap.size w (wr.drewN (q + nq))) := Lib.hid (Bs.below_drewN _ HB.out)
              have HPV : Hid (Calls Tryz.prog 44 #[V, .int .u64 ((k : Int) - (i : Int))] (wr.drewN (q + nq)) (GrowB w.heap.size (wr.drewN (q + nq)) (headB 2 n ++ bytesR d ++ varB 9 (R : Int)) (N + vl))) := Lib.hid (by
                have h := Qao         w.heap.size V N _ ((k : Int) - (i : Int)) _ HO2.out HB2.out.size (by omega) (by omega) (by have := HD.out.1; omega)
                rw [show (k : Int) - (i : Int) = (R : Int) from by omega, HVL.out] at h
                rw [show (k : Int) - (i : Int) = (R : Int) from by omega]
                exact h)
              clear hRk
              refine HPV.out.mono ?_
              rintro e w2 ⟨g3', cc3, rfl, hown3, hb3⟩
              have HB3 : Hid (Below w.heap.size w w2) := Lib.hid (HB2.out.trans hb3)
              have HO3 := Lib.hid hown3
              have gcell : w2.cell? ⟨gA, oA + i, none⟩ = some (.int .i64 x0) := by
                obtain ⟨gA', oA', e, hc⟩ := (Q7         HSeg.out HB3.out rfl).addr (by omega)
                cases e
                have := hc i hin
                rwa [HX0.out] at this
              have hub := u_bd x0
              have hux := QcA    x0
              have HP8 := Lib.hid (Ref1.Qay      w.heap.size (.slice (some ⟨g3', 0, none⟩) (N + vl) cc3) (N + vl) _ (u x0) 8 w2 HO3.out HB3.out.size hub.1 hub.2 (by decide) (by decide) (by have := HD.out.1; have := HK.out; omega))
              clear hown3 hb3 HPV HO2 HB2 hub
              dsimp only
              go_wp2_with fail
              refine HP8.out.mono ?_
              rintro e w4 ⟨g4, cc4, rfl, hown4, hb4⟩
              have HO4 : Hid (w4.ownsRow w.heap.size 5 1 (.slice (some ⟨g4, 0, none⟩) (N + vl + 8) cc4) (N + vl + 8) ((headB 2 n ++ bytesR (d ++ [(R, x0)])).map (Value.int .u8))) := Lib.hid (by
                rw [QdJ        ]
                have h := hown4
                rw [List.append_assoc, List.append_assoc] at h
                rw [List.append_assoc]
                exact h)
              have HB4 : Hid (Below w.heap.size w w4) := Lib.hid (HB3.out.trans hb4)
              clear hown4 hb4 HP8 HO3 HB3
              dsimp only
              go_wp2
              go_roundg (n - k)
              case rel =>
                obtain ⟨h1, h2⟩ := HD.out
                obtain ⟨k1, k2, k3, k4⟩ := HK.out
                exact ⟨k, N + vl + 8, d ++ [(R, x0)], _, by omega, rfl, rfl, Lib.hid ⟨_, _, rfl⟩, Lib.hid ⟨by omega, by rw [List.append_assoc, List.singleton_append, ← HRle.out, h2]⟩, HO4, HB4⟩
              case measure => have := HK.out; omega
end In
namespace In
open Go.RowKit Go.Joins
open Is (IsI)
open Bs (Qj)
open Ref1 (GrowB)
open Oct (varB putB)
open Us (Qak)
open Pk (wid putR PutX IsU)
theorem Qmj(l:List Int)(k:Nat)(x:Int)(h:k<l.length)(hx:l.getD k 0=x):(k=0→minL (l.take (k+1))=x)∧(0<k→minL (l.take (k+1))=if x<minL (l.take k) then x else minL (l.take k)):=by
 refine⟨fun h0=>?_,fun h0=>?_⟩
 ·subst h0;rw[Qjr l h];exact hx
 ·rw[QhY l k x h0 h hx,QmQ]
theorem rpacked_any (a : Option Addr) (n c : Nat) (l : List Int) (w : World) (hs : Is.Seg w a n c l) :
    Calls Tryz.prog 123 #[.slice a n c] w (PutE w (tooMany l (encB 3 l))) := by
  obtain ⟨i0, hi, hz0, hz1, hz2⟩ := info_parts Qj     
  obtain ⟨j0, ji, jz0, jz1, jz2⟩ := info_parts Qak     
  unfold PutE tooMany
  by_cases hn : 4096 < n
  · rw [if_pos (by rw [hs.len]; exact hn)]
    have HF : Hid (PartE w 3 [] (.returned (.tuple #[.slice none 0 0, .int .i64 3])) w) := Lib.hid ⟨none, 0, 0, rfl, rfl, Bs.Seg.nil _, Below.refl _ w⟩
    clear hs
    go_enter Tryz.func123, Tryz.ntmps123
    go_wp2
    go_ret2
    exact HF.out
  · rw [if_neg (by rw [hs.len]; exact hn)]
    have hn4 : n ≤ 4096 := by omega
    have HLen := Lib.hid hs.len
    have HSeg := Lib.hid hs
    clear hs hn
    go_enter Tryz.func123, Tryz.ntmps123
    go_wp2
    go_loop [4, 5] (fun sm si => ∃ (k : Nat) (m : Int), k ≤ n ∧ si = .int .i64 k ∧ sm = .int .i64 m ∧ Hid (m = minL (l.take k))) (fun _ si => n - (intOf si).toNat)
    case atStart => exact ⟨0, 0, Nat.zero_le _, rfl, rfl, Lib.hid rfl⟩
    case round =>
      obtain ⟨k, m, hk, rfl, rfl, HM⟩ := hrel
      by_cases hlt : k < n
      · obtain ⟨gA, oA, rfl, hc⟩ := HSeg.out.addr (by omega)
        have g1 := hc k hlt
        obtain ⟨x, hx⟩ : ∃ x, l.getD k 0 = x := ⟨_, rfl⟩
        rw [hx] at g1
        have hst := Qmj       l k x (by rw [HLen.out]; exact hlt) hx
        rw [← HM.out] at hst
        have HST := Lib.hid hst
        clear hx hc hst
        rcases Nat.eq_zero_or_pos k with hk0 | hk0
        · subst hk0
          rw [Nat.add_zero] at g1
          go_wp2
          go_round
          case rel => exact ⟨1, x, hlt, by go_num, rfl, Lib.hid (HST.out.1 rfl).symm⟩
          case measure => simp [intOf]; omega
        · have hkb : ((k : Int) == 0) = false := by simp; omega
          by_cases hxm : x < m
          · have H2 : Hid (minL (l.take (k + 1)) = x) := Lib.hid (by rw [HST.out.2 hk0, if_pos hxm])
            go_wp2
            go_round
            case rel => exact ⟨k + 1, x, by omega, by go_num, rfl, Lib.hid H2.out.symm⟩
            case measure => simp [intOf]; omega
          · have H2 : Hid (minL (l.take (k + 1)) = m) := Lib.hid (by rw [HST.out.2 hk0, if_neg hxm])
            go_wp2
            go_round
            case rel => exact ⟨k + 1, m, by omega, by go_num, rfl, Lib.hid H2.out.symm⟩
            case measure => simp [intOf]; omega
      · obtain rfl : k = n := by omega
        have hm0 : minL l = m := by rw [HM.out, List.take_of_length_le (Nat.le_of_eq HLen.out)]
        have HM0 := Lib.hid hm0
        clear hm0 HM
        go_wp2
        go_loopw [6, 7] (fun so si wr => ∃ (j : Nat) (V : Value), j ≤ k ∧ si = .int .i64 j ∧ V = so ∧ Hid (wr.ownsRow w.heap.size 85 1 V j (((offs l).take j).map (Value.int .u64))) ∧ Hid (Below w.heap.size w wr))
          (fun _ si _ => k - (intOf si).toNat)
        case atStart => exact ⟨0, _, Nat.zero_le _, rfl, rfl, Lib.hid (by simpa using World.ownsRow_nil _ _ _ _), Lib.hid (Below.refl _ w)⟩
        case round =>
          obtain ⟨j, V, hj, rfl, rfl, HO, HB⟩ := hrel
          by_cases hjt : j < k
          · have hseg := Q7         HSeg.out HB.out rfl
            obtain ⟨gA, oA, rfl, hc⟩ := hseg.addr (by omega)
            have g1 := hc j hjt
            obtain ⟨x, hx⟩ : ∃ x, l.getD j 0 = x := ⟨_, rfl⟩
            rw [hx] at g1
            have HP := Lib.hid (QhL       l j x (by have := HLen.out; omega) hx)
            have hsub := sub_u x m
            have HS1 := Lib.hid hsub
            obtain ⟨y, hy⟩ : ∃ y, IntKind.u64.wrap (IntKind.u64.wrap x - IntKind.u64.wrap m) = y := ⟨_, rfl⟩
            clear hx hc hseg hsub hy
            go_wp2_with (at_builtin; refine wpList_append_own _ rfl (.tmp 41) (.tmp 50) 88 rfl w.heap.size 85 j0 (.int .u64 0) 1 8 Tryz.underlying88 ji jz0 jz1 jz2 rfl (by decide) V j (((offs l).take j).map (Value.int .u64)) rfl (HO.out.alloc _) ⟨wr.heap.size, 0, none⟩ 1 1 [.int .u64 (IntKind.u64.wrap (IntKind.u64.wrap x - IntKind.u64.wrap m))] rfl rfl (by intro t u ht; match t, ht with | 0, ht => simp at ht; subst ht; exact Pk.Qm       wr _ _) (by intro u hu; simp at hu; subst hu; rfl) (by unfold maxLen; omega) (by omega) (by have := HB.out.size; simp; omega) ?_; intro v2 w2 hown2 hgrow2 hnil)
            go_roundw
            case rel =>
              refine ⟨j + 1, _, by omega, by go_num, rfl, ?_, Lib.hid ((HB.out.alloc HB.out.size _).grown hgrow2 (by have := HB.out.size; simp; omega) (fun j e => (HO.out.lt j e).1))⟩
              refine Lib.hid ?_
              rw [HP.out, List.map_append]
              rw [HS1.out] at hown2
              rw [HM0.out]
              exact hown2
            case measure => simp [intOf]; omega
          · obtain rfl : j = k := by omega
            have hown := HO.out
            rw [List.take_of_length_le (by rw [Qbi        ]; exact Nat.le_of_eq HLen.out)] at hown
            have huse : ∃ aV cV, V = .slice aV j cV ∧ Us.Seg wr aV j cV (offs l) := by
              rcases hown.2 with ⟨rfl, rfl⟩ | ⟨g, cap, cur, rfl, _⟩
              · have h1 := hown.1
                rw [List.length_map] at h1
                have h0 : offs l = [] := List.eq_nil_of_length_eq_zero (by omega)
                rw [h0]
                exact ⟨none, 0, rfl, Us.Seg.nil _⟩
              · exact ⟨some ⟨g, 0, none⟩, cap, rfl, Us.Seg.own hown⟩
            obtain ⟨aV, cV, rfl, hus⟩ := huse
            have HUS := Lib.hid hus
            have HWid := Lib.hid (Pk.QcQ        _ _ _ (offs l) wr hus (QaO      l))
            have hw64 := Pk.Qbh    (QaO      l)
            have hok := Qb3     l (by have := HLen.out; omega)
            obtain ⟨W, hW⟩ : ∃ W, wid (offs l) = W := ⟨_, rfl⟩
            rw [hW] at HWid hw64 hok
            have HPut := Lib.hid (Pk.Qay      aV j cV (offs l) (W : Int) wr hus (QaO      l))
            obtain ⟨B, hB⟩ : ∃ B, (putR (offs l) (W : Int)).2 = B := ⟨_, rfl⟩
            have hput : putR (offs l) (W : Int) = (0, B) := by rw [← hB, ← hok]
            rw [hput] at HPut
            unfold PutX at HPut
            dsimp only at HPut
            have hBl : B.length ≤ 524288 := by rw [← hB]; exact Pk.Qc0     _ _
            have hvl := Oct.QE      9 (j : Int)
            obtain ⟨h0, hh0⟩ : ∃ x, 1 + (varB 9 (j : Int)).length = x := ⟨_, rfl⟩
            have hb0 : h0 ≤ 11 := by omega
            have HHead := Lib.hid (fun w' => QaF       3 j w' (by omega))
            rw [hh0] at HHead
            have HFin : Hid (encB 3 l = headB 3 j ++ num8 m ++ [(W : Int)] ++ B) := Lib.hid (by
              unfold encB
              rw [HLen.out]
              show headB 3 j ++ packedB l = _
              unfold packedB
              rw [HM0.out, hW, hB, ← List.append_assoc, ← List.append_assoc])
            obtain ⟨bl, hbl⟩ : ∃ n, B.length = n := ⟨_, rfl⟩
            rw [hbl] at hBl HPut
            have HBl := Lib.hid hbl
            have hw8 : ((W : Int) % 256) = (W : Int) := by omega
            have hux := QcA    m
            clear hown hus hok hW hB hput hbl hh0 hvl HO
            go_wp2_with (first
              | (go_at_call 78; refine HWid.out.mono ?_; rintro e w' ⟨rfl, rfl⟩)
              | fail)
            refine HPut.out.mono ?_
            rintro e w1 ⟨a1, k1, rfl, hs1, hg1, -⟩
            have HS1 := Lib.hid hs1
            have HB1 : Hid (Below w.heap.size w w1) := Lib.hid (HB.out.trans (below_grown hg1 HB.out.size))
            have HHead1 := Lib.hid (HHead.out w1)
            clear hs1 hg1 HPut HWid HHead HUS HB
            dsimp only
            go_wp2_with fail
            refine HHead1.out.mono ?_
            rintro e w2 ⟨g2, c2, rfl, hown2, hb2⟩
            have hub := u_bd m
            have HP8 := Lib.hid (Ref1.Qay      w1.heap.size (.slice (some ⟨g2, 0, none⟩) h0 c2) h0 _ (u m) 8 w2 hown2 hb2.size hub.1 hub.2 (by decide) (by decide) (by omega))
            have HB2 : Hid (Below w1.heap.size w1 w2) := Lib.hid hb2
            clear hown2 hb2 HHead1 hub
            dsimp only
            go_wp2_with fail
            refine HP8.out.mono ?_
            rintro e w3 ⟨g3, c3, rfl, hown3, hb3⟩
            have HB3 : Hid (Below w1.heap.size w1 w3) := Lib.hid (HB2.out.trans hb3)
            have HO3 := Lib.hid hown3
            clear hown3 hb3 HP8 HB2
            dsimp only
            go_wp2_with (first
              | (at_builtin; refine wpList_append_own _ rfl (.tmp 66) (.tmp 69) 45 rfl w1.heap.size 5 i0 (.int .u8 0) 1 1 Tryz.underlying45 hi hz0 hz1 hz2 rfl (by decide) _ (h0 + 8) _ rfl (HO3.out.alloc _) ⟨w3.heap.size, 0, none⟩ 1 1 [.int .u8 (W : Int)] rfl rfl (by intro t u ht; match t, ht with | 0, ht => simp at ht; subst ht; exact Pk.Qm       w3 _ _) (by intro u hu; simp at hu; subst hu; rfl) (by unfold maxLen; omega) (by omega) (by have := HB3.out.size; simp; omega) ?_
                 intro v4 w4 hown4 hgrow4 _
                 have HB4 : Hid (Below w1.heap.size w1 w4) := Lib.hid ((HB3.out.alloc HB3.out.size _).grown hgrow4 (by have := HB3.out.size; simp; omega) (fun j e => (HO3.out.lt j e).1))
                 obtain ⟨g4, c4, rfl⟩ := ownsRow_form hown4 (by omega)
                 have HO4 := Lib.hid hown4
                 have HS4 := Lib.hid (HS1.out.grown (Bs.grown_of HB4.out))
                 have HW4 : Hid (w1.heap.size ≤ w4.heap.size) := Lib.hid HB4.out.size
                 clear hown4 hgrow4)
              | (at_builtin; refine Bs.Qr                rfl (.tmp 70) (.tmp 71) 45 rfl w1.heap.size 5 i0 Tryz.underlying45 hi hz0 hz1 hz2 g4 (h0 + 8 + 1) c4 _ rfl HO4.out a1 bl k1 B rfl HS4.out (by omega) HW4.out ?_; intro g5 c5 w5 hown5 hgrow5)
              | fail)
            have HF : Hid (PartE w 0 (encB 3 l) (.returned (.tuple #[.slice (some ⟨g5, 0, none⟩) (h0 + 8 + 1 + bl) c5, .int .i64 0])) w5) := by
              have hB5 : Below w.heap.size w w5 := HB1.out.trans (Qf         (HB4.out.grown hgrow5 HW4.out (fun j e => by cases e; exact (HO4.out.lt g4 rfl).1)) HB1.out.size)
              refine Lib.hid (Qfg       (base := w1.heap.size) ?_ hB5)
              rw [HFin.out]
              simp only [List.map_append] at hown5 ⊢
              exact hown5
            clear hown5 hgrow5
            go_ret2
            exact HF.out
end In
namespace In
open Go.RowKit Go.Joins
open Is (IsI)
theorem QaV{w w':World}{r:Int×List Int}{E:Int}{B:List Int}{e:Ending}(h:PutE w r e w')(hr:r=(E,B)){m:Nat}(hm:B.length=m) :
  ∃a k,e=.returned (.tuple #[.slice a m k,.int .i64 E])∧Bs.Seg w' a m k B∧Below w.heap.size w w':=by
 subst hr;obtain⟨a,m',k,he,hm',hs,hb⟩:=h;obtain rfl:m'=m:=hm'.trans hm;exact⟨a,k,he,hs,hb⟩
theorem Qm8(a:Option Addr)(n c:Nat)(l:List Int)(w:World)(hs:Is.Seg w a n c l) :
  Calls Tryz.prog 68 #[.slice a n c] w (PutE w (tooMany l (bestB l))):=by
 by_cases hn:4096<n
 ·have e1:∀e,tooMany l e=(3,[]):=fun e=>by unfold tooMany;rw[if_pos (by rw[hs.len];exact hn)]
  have HP:=hid (Qbf a n c l w hs);rw[e1]at HP ⊢;clear hs e1 hn;go_enter Tryz.func68,Tryz.ntmps68
  go_wp2_with fail
  refine HP.out.mono ?_;intro e w1 h;obtain⟨a1,k1,rfl,hs1,hb1⟩:=QaV h rfl rfl;have HF:Hid (PutE w (3,[]) (.returned (.tuple #[.slice none 0 0,.int .i64 3])) w1):=hid ⟨none,0,0,rfl,rfl,Bs.Seg.nil _,hb1⟩;clear h hs1 hb1;dsimp only[List.length_nil];go_wp2;go_ret2
  exact HF.out
 ·have e1:∀e,tooMany l e=(0,e):=fun e=>by unfold tooMany;rw[if_neg (by rw[hs.len];exact hn)]
  have HP:=hid (Qbf a n c l w hs);have HR:=hid (fun W h=>rruns_any a n c l W h);have HT:=hid (fun W h=>rpacked_any a n c l W h);rw[e1]at HP HR HT ⊢;have HSeg:=hid hs;obtain⟨p,hp⟩:∃p,(encB 1 l).length=p:=⟨_,rfl⟩;obtain⟨r,hr⟩:∃p,(encB 2 l).length=p:=⟨_,rfl⟩;obtain⟨t,ht⟩:∃p,(encB 3 l).length=p:=⟨_,rfl⟩;have HLs:=hid (show(encB 1 l).length=p∧(encB 2 l).length=r∧(encB 3 l).length=t from⟨hp,hr,ht⟩);clear hs e1 hn hp hr ht;go_enter Tryz.func68,Tryz.ntmps68
  go_wp2_with fail
  refine HP.out.mono ?_;intro e w1 h;obtain⟨a1,k1,rfl,hs1,hb1⟩:=QaV h rfl HLs.out.1;have S1:=hid hs1;have B1:=hid hb1;have HR1:=hid (HR.out w1 (Q7 HSeg.out hb1 rfl));clear h hs1 hb1 HP HR;dsimp only;go_wp2_with fail
  refine HR1.out.mono ?_;intro e w2 h;obtain⟨a2,k2,rfl,hs2,hb2⟩:=QaV h rfl HLs.out.2.1;have S1b:=hid (S1.out.grown (Bs.grown_of hb2));have S2:=hid hs2;have B2:Hid (Below w.heap.size w w2):=hid (B1.out.trans (Qf hb2 B1.out.size));have HT1:=hid (HT.out w2 (Q7 HSeg.out B2.out rfl));clear h hs2 hb2 HR1 HT S1 B1;dsimp only;by_cases c1:r<p
  ·go_wp2_with fail
   refine HT1.out.mono ?_;intro e w3 h;obtain⟨a3,k3,rfl,hs3,hb3⟩:=QaV h rfl HLs.out.2.2;have S2b:=hid (S2.out.grown (Bs.grown_of hb3));have S3:=hid hs3;have B3:Hid (Below w.heap.size w w3):=hid (B2.out.trans (Qf hb3 B2.out.size));clear h hs3 hb3 HT1;dsimp only;by_cases c2:t<r
   ·have HF:Hid (PutE w (0,bestB l) (.returned (.tuple #[.slice a3 t k3,.int .i64 0])) w3):=hid (by
     have e:bestB l=encB 3 l:=by
      obtain⟨h1,h2,h3⟩:=HLs.out;unfold bestB;simp only;rw[if_pos (by omega:(encB 2 l).length<(encB 1 l).length),if_pos (by omega)]
     rw[e];exact⟨a3,t,k3,rfl,HLs.out.2.2.symm,S3.out,B3.out⟩)
    go_wp2;go_ret2
    exact HF.out
   ·have HF:Hid (PutE w (0,bestB l) (.returned (.tuple #[.slice a2 r k2,.int .i64 0])) w3):=hid (by
     have e:bestB l=encB 2 l:=by
      obtain⟨h1,h2,h3⟩:=HLs.out;unfold bestB;simp only;rw[if_pos (by omega:(encB 2 l).length<(encB 1 l).length),if_neg (by omega)]
     rw[e];exact⟨a2,r,k2,rfl,HLs.out.2.1.symm,S2b.out,B3.out⟩)
    go_wp2;go_ret2
    exact HF.out
  ·go_wp2_with fail
   refine HT1.out.mono ?_;intro e w3 h;obtain⟨a3,k3,rfl,hs3,hb3⟩:=QaV h rfl HLs.out.2.2;have S1c:=hid (S1b.out.grown (Bs.grown_of hb3));have S3:=hid hs3;have B3:Hid (Below w.heap.size w w3):=hid (B2.out.trans (Qf hb3 B2.out.size));clear h hs3 hb3 HT1;dsimp only;by_cases c2:t<p
   ·have HF:Hid (PutE w (0,bestB l) (.returned (.tuple #[.slice a3 t k3,.int .i64 0])) w3):=hid (by
     have e:bestB l=encB 3 l:=by
      obtain⟨h1,h2,h3⟩:=HLs.out;unfold bestB;simp only;rw[if_neg (by omega:¬(encB 2 l).length<(encB 1 l).length),if_pos (by omega)]
     rw[e];exact⟨a3,t,k3,rfl,HLs.out.2.2.symm,S3.out,B3.out⟩)
    go_wp2;go_ret2
    exact HF.out
   ·have HF:Hid (PutE w (0,bestB l) (.returned (.tuple #[.slice a1 p k1,.int .i64 0])) w3):=hid (by
     have e:bestB l=encB 1 l:=by
      obtain⟨h1,h2,h3⟩:=HLs.out;unfold bestB;simp only;rw[if_neg (by omega:¬(encB 2 l).length<(encB 1 l).length),if_neg (by omega)]
     rw[e];exact⟨a1,p,k1,rfl,HLs.out.1.symm,S1c.out,B3.out⟩)
    go_wp2;go_ret2
    exact HF.out
end In
namespace In
open Go.RowKit Go.Joins
open Bs (Qj)
open Oct (readV ofB VInv)
open Dv (Turn nowhere)
end In
namespace In
open Go.RowKit Go.Joins
open Oct (readV ofB VInv)
open Dv (Turn nowhere)
end In
namespace In
open Go.RowKit Go.Joins
open Is (IsI)
open Oct (readV ofB)
open Dv (Turn nowhere)
theorem Qff{w:World}{base n:Nat}{V:Value}{l:List Int}(h:w.ownsRow base 2 1 V n (l.map (Value.int .i64))):∃a c,V=.slice a n c∧Is.Seg w a n c l:=by
 have h1:=h.1;rw[List.length_map,Nat.mul_one]at h1;have hh:=h;rcases h.2 with ⟨rfl,rfl⟩|⟨g',cap,cur,rfl,_⟩
 ·obtain rfl:=List.eq_nil_of_length_eq_zero h1;exact⟨none,0,rfl,Is.Seg.nil w⟩
 ·exact⟨_,cap,rfl,Is.Seg.own hh⟩
theorem Qg1{w:World}{base e s n c:Nat}{a:Option Addr}{xs:List Value}(h:w.ownsRow base e s (.slice a n c) n xs):∀ad,a=some ad→base≤ad.block:=by
 intro ad had;subst had;rcases h.2 with ⟨q,_⟩|⟨g,cap,cur,q,hb,_⟩
 ·simp at q
 ·cases q;exact hb
def RGetsX(b g:Nat)(w:World)(r:Option (List Int×List Int))(e:Ending)(w':World):Prop:=
 Turn w w' (At b)∧match r with
  |some (l,rest)=>∃a c,e=.returned (.tuple #[.slice a l.length c,.bool true])∧Is.Seg w' a l.length c l∧RR w' b g rest∧∀ad,a=some ad→w.heap.size≤ad.block
  |none=>e=.returned (.tuple #[.slice none 0 0,.bool false])
theorem QjO(b g n:Nat)(bs:List Int)(w:World)(h:RR w b g bs)(hg:g<w.heap.size)(hb:Oct.IsB bs)(hn:n≤65536) :
  Calls Tryz.prog 131 #[.pointer (some ⟨b,0,none⟩),.int .i64 n] w (RGetsX b g w (decR false n none n bs)):=by
 obtain⟨i0,hi,hz0,hz1,hz2⟩:=info_parts Is.Qax;have HBL:=hid h.lt;have HGL:=hid hg;have HR0:=hid h;have HE0:Hid (∃f,n≤f∧decR false n none n bs=(decR false f ([]:List Int).getLast? n bs).map (fun p=>(([]:List Int)++p.1,p.2))):=hid ⟨n,Nat.le_refl _,by simp⟩;have HB0:=hid hb;obtain⟨X,hX⟩:∃X,X=decR false n none n bs:=⟨_,rfl⟩;rw[←hX]at HE0 ⊢;clear h hg hb hX;go_enter Tryz.func131,Tryz.ntmps131
 go_wp2
 go_loopg [6] n (fun gh so wr=>∃(k:Nat) (acc rest:List Int) (aV:Option Addr) (cV:Nat),k+gh=n∧so=.slice aV k cV∧Hid (wr.ownsRow w.heap.size 2 1 (.slice aV k cV) k (acc.map (Value.int .i64))) ∧
   Hid (RR wr b g rest)∧Hid (Oct.IsB rest)∧Hid (∃f,gh≤f∧X=(decR false f acc.getLast? gh rest).map (fun p=>(acc++p.1,p.2)))∧Hid (Turn w wr (At b)))
 case atStart=>exact⟨0,[],bs,none,0,by omega,rfl,hid (World.ownsRow_nil _ _ _ _),HR0,HB0,HE0,hid (Turn.refl _ _)⟩
 case round=>
  obtain⟨k,acc,rest,aV,cV,hk,rfl,HO,HR,HB,HE,HT⟩:=hrel;have hal:acc.length=k:=by have:=HO.out.1;rw[List.length_map]at this;omega
  cases gk with
  |zero=>
   obtain rfl:k=n:=by omega
   have HF:Hid (RGetsX b g w X (.returned (.tuple #[.slice aV k cV,.bool true])) wr):=hid (by
    obtain⟨f,_,hd⟩:=HE.out;have hd2:X=some (acc,rest):=by rw[hd,QcH];simp
    rw[hd2];obtain⟨a',c',e,hs⟩:=Qff HO.out;cases e
    exact⟨HT.out,_,_,by rw[hal],by rw[hal];exact hs,HR.out,Qg1 HO.out⟩)
   clear hal;go_wp2;go_ret2
   exact HF.out
  |succ m=>
   obtain⟨f1,hf1,hd⟩:=HE.out;obtain⟨f,rfl⟩:∃f',f1=f'+1:=⟨f1-1,by omega⟩;have hstep:=decR_step false f m acc rest X hd;have hf:m≤f:=by omega
   clear hd hf1;have HV:=hid (rvar_any b g rest wr HR.out HB.out);unfold RVarX at HV;have hrd:=QQ rest HB.out;obtain⟨q,er,nn,hq⟩:∃q er nn,readV 0 0 rest=(q,er,nn):=⟨_,_,_,rfl⟩;rw[hq]at hstep HV;have hrd:=hrd q nn;rw[hq]at hrd;dsimp only at hstep HV;obtain⟨rest2,hrest2⟩:∃r,r=rest.drop nn:=⟨_,rfl⟩;have HB2:Hid (Oct.IsB rest2):=hid (by rw[hrest2];exact Qn HB.out nn);rw[←hrest2]at hstep HV;clear hq hrest2;go_wp2_with fail
   refine HV.out.mono ?_;rintro e w1 ⟨rfl,ht1,hr1⟩;obtain⟨z,E8,rest3,hz8,hm8,hnum⟩:=Qjl b g rest2 w1 hr1 HB2.out;have HN:=hid hnum;have HT1:Hid (Turn w w1 (At b)):=hid (Qe HT.out ht1 (fun i e=>.inl e));have HO1:=hid (Qbm HO.out ht1 HBL.out);clear ht1 hr1 hnum HV;dsimp only;go_wp2_with fail
   refine HN.out.mono ?_;rintro e w2 ⟨rfl,ht2,hr2⟩;have HT2:Hid (Turn w w2 (At b)):=hid (Qe HT1.out ht2 (fun i e=>.inl e));have HO2:=hid (Qbm HO1.out ht2 HBL.out);have HR2:=hid hr2;clear ht2 hr2 HN HO1 HT1;dsimp only;by_cases her:er=0
   ·subst her;obtain⟨q0,q1,-⟩:=hrd rfl;by_cases h8:rest2.length<8
    ·have hE8:=hm8 h8;subst hE8;have HX:=hid (hstep.2.1 rfl h8);have HF:Hid (RGetsX b g w X (.returned (.tuple #[.slice none 0 0,.bool false])) w2):=hid (by rw[HX.out];exact⟨HT2.out,rfl⟩);clear hstep h8 hz8 hm8 hal hrd q0 q1;go_wp2;go_ret2
     exact HF.out
    ·have h8':8≤rest2.length:=by omega
     obtain⟨hz,rfl,hr3⟩:=hz8 h8';have hs3:=hstep.2.2 rfl h8';have hzb:=QaG (rest2.take 8) (QB HB2.out 8) (by rw[List.length_take];omega);rw[←hz]at hzb hs3;rw[←hr3]at hs3;have HB3:Hid (Oct.IsB rest3):=hid (by rw[hr3];exact Qn HB2.out 8);rw[←QbT z hzb.1 hzb.2]at hs3;obtain⟨M,hM⟩:∃M,M=m+1:=⟨_,rfl⟩;rw[←hM]at hs3;have M1:1≤M:=by omega
     have Mn:M+k=n:=by omega
     obtain⟨z',hz'⟩:∃z',wrap64 z=z':=⟨_,rfl⟩;rw[hz']at hs3;have hMe:(n:Int)-(k:Int)=(M:Int):=by omega
     have hM0:M≤65536:=by omega
     by_cases hbad:q<1∨(M:Int)<q∨(false=true∧acc.getLast?=some z')
     ·have HX:=hid (hs3.1 hbad);have hcs:q<1∨(¬q<1∧(M:Int)<q):=by
       rcases hbad with h|h|h
       ·exact .inl h
       ·by_cases h1:q<1
        ·exact .inl h1
        ·exact .inr ⟨h1,h⟩
       ·cases h.1
      have HF:Hid (RGetsX b g w X (.returned (.tuple #[.slice none 0 0,.bool false])) w2):=hid (by rw[HX.out];exact⟨HT2.out,rfl⟩);have HMd:=hid hMe;clear hstep hz8 hm8 hz hr3 hs3 hbad h8 h8' hal hrd hM M1 Mn hk hf hzb;rcases hcs with c1|⟨c1,c2⟩
      ·clear q0 q1;go_wp2;go_ret2
       exact HF.out
      ·have c2':decide ((M:Int)<q)=true:=decide_eq_true c2;clear c2;go_wp2;go_ret2
       exact HF.out
     ·have hX:=hs3.2 hbad;obtain⟨C,rfl⟩:∃C:Nat,q=(C:Int):=⟨q.toNat,by omega⟩;rw[Int.toNat_natCast]at hX;have C1:1≤C:=by omega
      have CM:C≤M:=by omega
      have HE2:Hid (∃f,M-C≤f∧X=(decR false f (acc++List.replicate C z').getLast? (M-C) rest3).map (fun p=>((acc++List.replicate C z')++p.1,p.2))):=hid ⟨f,by omega,hX⟩;have hC1:¬(C:Int)<1:=by omega
      have hcM:¬M<C:=by omega
      have HK:=hid (show 1≤C∧C≤M∧M+k=n∧M≤65536∧M=m+1 from⟨C1,CM,Mn,hM0,hM⟩);clear hstep hz8 hm8 hz hr3 hs3 hbad h8 h8' hal hrd hM M1 Mn hk hf hzb hX CM q0 q1 C1;go_wp2
      go_loopg [6,7] C (fun gj so sq wx=>∃(j:Nat) (aW:Option Addr) (cW:Nat),j+gj=C∧so=.slice aW (k+j) cW∧sq=.int .u64 gj∧Hid (wx.ownsRow w.heap.size 2 1 (.slice aW (k+j) cW) (k+j) ((acc++List.replicate j z').map (Value.int .i64)))∧Hid (Turn w wx (At b))∧Hid (RR wx b g rest3))
      case atStart=>exact⟨0,aV,cV,by omega,rfl,rfl,hid (by simpa using HO2.out),HT2,HR2⟩
      case round=>
       obtain⟨j,aW,cW,hj,rfl,rfl,HOj,HTj,HRj⟩:=hrel;cases gk with
       |zero=>
        obtain rfl:j=C:=by omega
        have HG:=hid (show k+j+(M-j)=n from by have:=HK.out;omega);clear hj hcM hC1 hMe;go_wp2
        go_roundg (M-j)
        case rel=>exact⟨k+j,acc++List.replicate j z',rest3,aW,cW,HG.out,rfl,HOj,HRj,HB3,HE2,HTj⟩
        case measure=>have:=HK.out;omega
       |succ gj=>
        have hgj:gj≤65536:=by have:=HK.out;omega
        have hkj:k+j≤65536:=by have:=HK.out;omega
        have HJ:=hid (show j+1+gj=C from by omega);have HJM:=hid hj;have HW:Hid (w.heap.size≤wr.heap.size):=hid HTj.out.size;clear hj hcM hC1 hMe;go_wp2_with (at_builtin;refine wpList_append_own _ rfl (.tmp 48) (.tmp 51) 131 rfl w.heap.size 2 i0 (.int .i64 0) 1 8 Tryz.underlying131 hi hz0 hz1 hz2 rfl (by decide) (.slice aW (k+j) cW) (k+j) _ rfl (HOj.out.alloc _) ⟨wr.heap.size,0,none⟩ 1 1 [.int .i64 z'] rfl rfl (by intro t u ht;match t,ht with|0,ht=>simp at ht;subst ht;exact Pk.Qm wr _ _) (by intro u hu;simp at hu;subst hu;rfl) (by unfold maxLen;omega) (by omega) (by have:=HW.out;simp;omega) ?_;intro v5 w5 hown5 hgrow5 _)
        obtain⟨g5,c5,rfl⟩:=ownsRow_form hown5 (by omega);have HO5:Hid (w5.ownsRow w.heap.size 2 1 (.slice (some ⟨g5,0,none⟩) (k+(j+1)) c5) (k+(j+1)) ((acc++List.replicate (j+1) z').map (Value.int .i64))):=hid (by
         rw[List.replicate_succ',←List.append_assoc,List.map_append];exact hown5)
        have hrow:∀i,(Value.slice aW (k+j) cW).ownBlock=some i→w.heap.size≤i:=fun i e=>(HOj.out.lt i e).1
        have HT5:Hid (Turn w w5 (At b)):=hid (Qcs (Qe HTj.out (Turn.alloc wr _ (At b)) (fun i e=>.inl e)) hgrow5 hrow);have HR5:Hid (RR w5 b g rest3):=hid (RR.own (N:=w.heap.size) (HRj.out.turn (Turn.alloc wr _ nowhere) id id) hgrow5 hrow HBL.out HGL.out);clear hown5 hgrow5 hrow
        go_roundg gj
        case rel=>exact⟨j+1,some ⟨g5,0,none⟩,c5,HJ.out,rfl,by first|rfl|(congr 1;omega)|simp,HO5,HT5,HR5⟩
        case measure=>omega
   ·have HX:=hid (hstep.1 her);have HF:Hid (RGetsX b g w X (.returned (.tuple #[.slice none 0 0,.bool false])) w2):=hid (by rw[HX.out];exact⟨HT2.out,rfl⟩);clear hstep hz8 hm8 hal hrd;go_wp2;go_ret2
    exact HF.out
end In
end Go.Proofs.YtljanfnhmhimiaaGreat
