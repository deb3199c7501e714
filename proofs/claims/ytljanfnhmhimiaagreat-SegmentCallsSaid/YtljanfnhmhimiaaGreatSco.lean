/- Parts of the proof. -/
import Derived.Test.YtljanfnhmhimiaaGreatScn
set_option maxRecDepth 100000
set_option maxHeartbeats 8000000
open Go.Lib (hid)
namespace Go.Proofs.YtljanfnhmhimiaaGreat
namespace Sg
open Go.RowKit Go.Joins Zn Zr Dv
open Oct (Rd)
open In (At getI)
open Nu (cnt)
open Tx (getT)
open Pk (getR)
theorem QmB{M:Nat}{rest:List Int}(hb:Oct.IsB rest)(hl:rest.length≤100000000)(h:cellsS 1 M rest=none)(cb:Nat)(a:Option Addr)(c:Nat)(W:World)(hB:BoxI W cb)(hs:Bs.Seg W a rest.length c rest) :
  Calls Tryz.prog 236 #[.agg #[.func (.func 89) #[] #[],.func (.func 90) #[] #[],.func (.func 91) #[] #[],.func (.func 93) #[] #[],.func (.func 95) #[] #[],.func (.func 140) #[] #[.pointer (some ⟨cb,0,none⟩)]],.slice a rest.length c,.int .i64 (M:Int)] W (NoX W):=by
 obtain⟨E,L,hR⟩:∃E L,getI rest=(E,L):=⟨_,_,rfl⟩;refine Qip cb a rest.length c (M:Int) W ((QoC hR rfl hb hl cb a rest.length c (M:Int) ?_ _ (hs.grown (Qb _ _)) (hB.old (Turn.alloc _ _ _))).mono fun _ _ h=>Qjv h);unfold cellsS at h;rw[if_pos rfl,hR]at h;by_cases hc:E≠0∨L.length≠M
 ·rcases hc with hc|hc
  ·exact .inl hc
  ·exact .inr (by omega)
 ·rw[if_neg hc]at h;cases h
theorem Qk7{M:Nat}{rest:List Int}{cs:List Cel}(hb:Oct.IsB rest)(hl:rest.length≤100000000)(h:cellsS 1 M rest=some cs)(cb:Nat)(a:Option Addr)(c:Nat)(W:World)(hB:BoxI W cb)(hs:Bs.Seg W a rest.length c rest) :
  Calls Tryz.prog 236 #[.agg #[.func (.func 89) #[] #[],.func (.func 90) #[] #[],.func (.func 91) #[] #[],.func (.func 93) #[] #[],.func (.func 95) #[] #[],.func (.func 140) #[] #[.pointer (some ⟨cb,0,none⟩)]],.slice a rest.length c,.int .i64 (M:Int)] W (GotC W M cs):=by
 obtain⟨E,L,hR⟩:∃E L,getI rest=(E,L):=⟨_,_,rfl⟩;have hlen:=(In.Qfj rest hb).1;unfold cellsS at h;rw[if_pos rfl,hR]at h;rw[hR]at hlen;by_cases hc:E≠0∨L.length≠M
 ·rw[if_pos hc]at h;cases h
 ·rw[if_neg hc]at h;obtain rfl:=Option.some.inj h;have h0:E=0:=Classical.byContradiction fun e=>hc (.inl e)
  have h1:L.length=M:=Classical.byContradiction fun e=>hc (.inr e)
  rw[h0]at hR;exact QgT cb a rest.length c M (M:Int) L h1 (by rw[←h1];exact Nat.le_trans hlen (by decide)) W (Qnf hR h1 hb hl cb a rest.length c (M:Int) rfl _ (hs.grown (Qb _ _)) (hB.old (Turn.alloc _ _ _)))
theorem Qm6{M:Nat}{rest:List Int}(hb:Oct.IsB rest)(hl:rest.length≤100000000)(h:cellsS 3 M rest=none)(cb:Nat)(a:Option Addr)(c:Nat)(W:World)(hB:BoxT W cb)(hs:Bs.Seg W a rest.length c rest) :
  Calls Tryz.prog 244 #[.agg #[.func (.func 105) #[] #[],.func (.func 106) #[] #[],.func (.func 107) #[] #[],.func (.func 108) #[] #[],.func (.func 109) #[] #[],.func (.func 146) #[] #[.pointer (some ⟨cb,0,none⟩)]],.slice a rest.length c,.int .i64 (M:Int)] W (NoX W):=by
 unfold cellsS at h;rw[if_neg (by decide),if_neg (by decide)]at h;cases hg:getT rest with
 |none=>
  have hR:Tx.resT (getT rest)=(4,[]):=by rw[hg];rfl
  exact QeE cb a rest.length c (M:Int) W ((QiF hR rfl hb hl cb a rest.length c (M:Int) (.inl (by decide)) _ (hs.grown (Qb _ _)) (hB.old (Turn.alloc _ _ _))).mono fun _ _ h=>Qjv h)
 |some L=>
  rw[hg]at h;dsimp only at h;have hR:Tx.resT (getT rest)=(0,L):=by rw[hg];rfl
  by_cases hc:L.length≠M
  ·exact QeE cb a rest.length c (M:Int) W ((QiF hR rfl hb hl cb a rest.length c (M:Int) (.inr (by omega)) _ (hs.grown (Qb _ _)) (hB.old (Turn.alloc _ _ _))).mono fun _ _ h=>Qjv h)
  ·rw[if_neg hc]at h;cases h
theorem QlA{M:Nat}{rest:List Int}{cs:List Cel}(hb:Oct.IsB rest)(hl:rest.length≤100000000)(h:cellsS 3 M rest=some cs)(cb:Nat)(a:Option Addr)(c:Nat)(W:World)(hB:BoxT W cb)(hs:Bs.Seg W a rest.length c rest) :
  Calls Tryz.prog 244 #[.agg #[.func (.func 105) #[] #[],.func (.func 106) #[] #[],.func (.func 107) #[] #[],.func (.func 108) #[] #[],.func (.func 109) #[] #[],.func (.func 146) #[] #[.pointer (some ⟨cb,0,none⟩)]],.slice a rest.length c,.int .i64 (M:Int)] W (GotC W M cs):=by
 unfold cellsS at h;rw[if_neg (by decide),if_neg (by decide)]at h;cases hg:getT rest with
 |none=>rw[hg]at h;cases h
 |some L=>
  rw[hg]at h;dsimp only at h;have hR:Tx.resT (getT rest)=(0,L):=by rw[hg];rfl
  have hlen:=(Tx.QiB hb hg).1.1;by_cases hc:L.length≠M
  ·rw[if_pos hc]at h;cases h
  ·rw[if_neg hc]at h;obtain rfl:=Option.some.inj h;have h1:L.length=M:=Classical.byContradiction hc;exact Qg8 cb a rest.length c M (M:Int) L h1 (by rw[←h1];exact Nat.le_trans hlen (by decide)) W (Qmk hR h1 hb hl cb a rest.length c (M:Int) rfl _ (hs.grown (Qb _ _)) (hB.old (Turn.alloc _ _ _)))
theorem QlQ{M:Nat}{rest:List Int}(hb:Oct.IsB rest)(h:cellsS 2 M rest=none)(a:Option Addr)(c:Nat)(W:World)(hs:Bs.Seg W a rest.length c rest) :
  Calls Tryz.prog 240 #[.agg #[.func (.func 98) #[] #[],.func (.func 99) #[] #[],.func (.func 100) #[] #[],.func (.func 101) #[] #[],.func (.func 102) #[] #[],.func (.func 103) #[] #[]],.slice a rest.length c,.int .i64 (M:Int)] W (NoX W):=by
 obtain⟨E,L,hR⟩:∃E L,getR rest (M:Int) 1=(E,L):=⟨_,_,rfl⟩;refine Qid a rest.length c (M:Int) W ((all_B hR rfl (Pk.Q0 hb) a rest.length c _ (hs.grown (Qb _ _))).mono fun e w' h=>?_);obtain⟨a1,k1,he,_,ht⟩:=h;refine⟨ht,E,a1,_,k1,?_,he⟩;rintro rfl;have hp:=Pk.Qau rest (M:Int) 1 (Pk.Q0 hb) (by rw[hR]);rw[hR]at hp;unfold cellsS at h;rw[if_neg (by decide),if_pos rfl,hR,if_neg (by rintro(e|e);exact e rfl;exact e (by have:=hp.2.1;simp only at this ⊢;omega))]at h;cases h
theorem Qli{M:Nat}{rest:List Int}{cs:List Cel}(hb:Oct.IsB rest)(h:cellsS 2 M rest=some cs)(a:Option Addr)(c:Nat)(W:World)(hs:Bs.Seg W a rest.length c rest) :
  Calls Tryz.prog 240 #[.agg #[.func (.func 98) #[] #[],.func (.func 99) #[] #[],.func (.func 100) #[] #[],.func (.func 101) #[] #[],.func (.func 102) #[] #[],.func (.func 103) #[] #[]],.slice a rest.length c,.int .i64 (M:Int)] W (GotC W M cs):=by
 obtain⟨E,L,hR⟩:∃E L,getR rest (M:Int) 1=(E,L):=⟨_,_,rfl⟩;have hlen:=Pk.Qfj rest (M:Int) 1;unfold cellsS at h;rw[if_neg (by decide),if_pos rfl,hR]at h;rw[hR]at hlen;by_cases hc:E≠0∨L.length≠M
 ·rw[if_pos hc]at h;cases h
 ·rw[if_neg hc]at h;obtain rfl:=Option.some.inj h;have h0:E=0:=Classical.byContradiction fun e=>hc (.inl e)
  have h1:L.length=M:=Classical.byContradiction fun e=>hc (.inr e)
  have hp:=Pk.Qau rest (M:Int) 1 (Pk.Q0 hb) (by rw[hR];exact h0);rw[hR]at hp;have hf:=(Pk.Qbv _ 1 hp.2.2.2.nonneg).1 (by have:=hp.2.2.1;omega);rw[h0]at hR;exact Qha a rest.length c M (M:Int) L (fun x hx=>by have:=hf x hx;omega) h1 (by rw[←h1];exact hlen) W ((all_B hR h1 (Pk.Q0 hb) a rest.length c _ (hs.grown (Qb _ _))).mono fun e w' ⟨a1,k1,he,hs1,ht⟩=>⟨ht,a1,k1,he,hs1⟩)
theorem QhJ{k:Int}{n:Nat}{r:List Int}{cs:List Cel}(hr:Oct.IsB r)(hcs:cellsS k n r=some cs):IntOk cs:=by
 unfold cellsS at hcs;by_cases e1:k=1
 ·rw[if_pos e1]at hcs
  split at hcs
  ·cases hcs
  ·obtain rfl:=Option.some.inj hcs;intro c hc;obtain⟨v,hv,rfl⟩:=List.mem_map.1 hc;exact(In.Qfj r hr).2 v hv
 ·rw[if_neg e1]at hcs;by_cases e2:k=2
  ·rw[if_pos e2]at hcs
   split at hcs
   ·cases hcs
   ·rename_i hne
    obtain rfl:=Option.some.inj hcs;intro c hc;obtain⟨v,hv,rfl⟩:=List.mem_map.1 hc;have hz:(getR r n 1).1=0:=Classical.byContradiction fun e=>hne (.inl e)
    have hp:=Pk.Qau r _ 1 (Pk.Q0 hr) hz;have hf:=(Pk.Qbv _ 1 hp.2.2.2.nonneg).1 (by have:=hp.2.2.1;omega);have:=hf v hv
    show -9223372036854775808≤v∧v≤9223372036854775807
    omega
  ·rw[if_neg e2]at hcs;cases ht:getT r with
   |none=>rw[ht]at hcs;cases hcs
   |some L=>
    rw[ht]at hcs;dsimp only at hcs
    split at hcs
    ·cases hcs
    ·obtain rfl:=Option.some.inj hcs;intro c hc;obtain⟨v,hv,rfl⟩:=List.mem_map.1 hc
     show -9223372036854775808≤(0:Int)∧(0:Int)≤9223372036854775807
     omega
theorem QjB(q:Hd)(b g:Nat)(nl:List Bool)(rest:List Int)(w:World)(k1:1≤q.kind)(k3:q.kind≤3)(hs:Bl.Seg w q.a q.n q.c nl)(hn:q.n≤4096)(hz1:q.z.cnt=(q.n:Int))(hz2:q.z.nul=(cnt nl:Int))(hr:Rd w b g rest)(hab:∀ad,q.a=some ad→q.n≠0→ad.block≠b)(hrb:Oct.IsB rest)(hrl:rest.length≤100000000) :
  Calls Tryz.prog 35 #[.agg #[.int .i64 q.kind,.slice q.a q.n q.c,.int .i64 q.z.cnt,.int .i64 q.z.nul,.int .i64 q.z.min.k,.int .i64 q.z.min.n,.string q.z.min.s,.int .i64 q.z.max.k,.int .i64 q.z.max.n,.string q.z.max.s],.pointer (some ⟨b,0,none⟩)] w
   (CellsX b w q.n ((if cnt nl=nl.length then some [] else cellsS q.kind (nl.length-cnt nl) rest).map (mergeS nl))):=by
 have hl:=hs.len;have hcl:=Nu.QaK nl;by_cases hc:cnt nl=nl.length
 ·rw[if_pos hc];exact Qie q b nl w hs hn (by omega)
 ·rw[if_neg hc];obtain⟨M,hM⟩:∃M,M=nl.length-cnt nl:=⟨_,rfl⟩;rw[←hM];rcases(by omega:q.kind=1∨q.kind=2∨q.kind=3) with e|e|e
  ·cases ho:cellsS q.kind M rest with
   |none=>
    rw[e]at ho;exact getSeg_no_I q b g nl rest M w e hs hn (by omega) (by omega) (by omega) hr hab hrb hrl (fun cb a c W hB hs=>QmB hrb hrl ho cb a c W hB hs)
   |some cs=>
    rw[e]at ho;exact getSeg_yes_I q b g nl rest M cs w e hs hn (by omega) (by omega) (by omega) hr hab hrb hrl (fun cb a c W hB hs=>Qk7 hrb hrl ho cb a c W hB hs)
  ·cases ho:cellsS q.kind M rest with
   |none=>
    rw[e]at ho;exact getSeg_no_B q b g nl rest M w e hs hn (by omega) (by omega) (by omega) hr hab hrb hrl (fun a c W hs=>QlQ hrb ho a c W hs)
   |some cs=>
    rw[e]at ho;exact getSeg_yes_B q b g nl rest M cs w e hs hn (by omega) (by omega) (by omega) hr hab hrb hrl (fun a c W hs=>Qli hrb ho a c W hs)
  ·cases ho:cellsS q.kind M rest with
   |none=>
    rw[e]at ho;exact getSeg_no_T q b g nl rest M w e hs hn (by omega) (by omega) (by omega) hr hab hrb hrl (fun cb a c W hB hs=>Qm6 hrb hrl ho cb a c W hB hs)
   |some cs=>
    rw[e]at ho;exact getSeg_yes_T q b g nl rest M cs w e hs hn (by omega) (by omega) (by omega) hr hab hrb hrl (fun cb a c W hB hs=>QlA hrb hrl ho cb a c W hB hs)
end Sg
namespace Sg
open Go.RowKit Go.Joins Zn Zr Dv
open Oct (Rd)
open In (At)
open Nu (cnt)
theorem Put_c:PutC:=fun kind a n c l w hs hi _ _=>(Qkh kind a n c l w hs hi).mono fun _ _ h=>h
theorem Check_c:CheckC:=fun kind a n c l w hs _ _ _=>QbB kind a n c l w hs
def GetX(w:World)(K:Int)(L:List Cel)(m:Nat)(E:Int)(e:Ending)(w':World):Prop:=
 ∃a c,e=.returned (.tuple #[.int .i64 K,.slice a m c,.int .i64 E])∧CSeg w' a m c L∧w.grownBy w' none
theorem Qck{w w':World}(h:w.grownBy w' none):GetX w 0 [] 0 4 (.returned (.tuple #[.int .i64 0,.slice none 0 0,.int .i64 4])) w':=⟨none,0,rfl,CSeg.nil w',h⟩
def resS(k:Int)(nl:List Bool)(s:List Int):Option (List Cel)→Int×List Cel×Int
 |none=>(0,[],4)
 |some cs=>if putS k (mergeS nl cs)=(0,s) then(k,mergeS nl cs,0) else(0,[],4)
theorem QeW{nl:List Bool}{cs:List Cel}(h:IntOk cs):IntOk (mergeS nl cs):=fun c hc=>by
 rcases QcC nl cs c hc with rfl|hc
 ·show -9223372036854775808≤(0:Int)∧(0:Int)≤9223372036854775807
  omega
 ·exact h c hc
theorem QeP(s:List Int)(hb:Bs.IsB s)(hl:s.length≤100000000)(hh:headS s=none)(w:World):Calls Tryz.prog 12 #[.string (strOfNums s)] w (GetX w 0 [] 0 4):=by
 have h0:=fun W=>QdC s hb hl W
 rw[hh]at h0;have HH:=hid h0;obtain⟨S,hS⟩:∃S,strOfNums s=S:=⟨_,rfl⟩;rw[hS]at HH ⊢;clear hS hb hl hh h0;go_enter Tryz.func12,Tryz.ntmps12
 go_wp2_with fail
 refine(HH.out _).mono ?_;intro e w1 hx;obtain⟨rfl,ht⟩:HeadNo w e w1:=hx;have HF:Hid (GetX w 0 [] 0 4 (.returned (.tuple #[.int .i64 0,.slice none 0 0,.int .i64 4])) (w1.alloc (.cells #[.int .i64 0,.slice none 0 0,.int .i64 0,.int .i64 0,.int .i64 0,.int .i64 0,.string ⟨#[]⟩,.int .i64 0,.int .i64 0,.string ⟨#[]⟩] 69))):=hid (Qck (Qa ht.grown (Qb _ _)));clear ht;dsimp only;go_wp2;go_ret3
 exact HF.out
theorem QdN(s:List Int)(hb:Bs.IsB s)(hl:s.length≤100000000)(k:Int)(nl:List Bool)(z:Zon)(r:List Int)(hh:headS s=some (k,nl,z,r))(o:Option (List Cel))(ho:(if cnt nl=nl.length then some [] else cellsS k (nl.length-cnt nl) r)=o)
  (K:Int) (L:List Cel) (m:Nat) (E:Int) (hres:resS k nl s o=(K,L,E)) (hm:L.length=m) (w:World) :
  Calls Tryz.prog 12 #[.string (strOfNums s)] w (GetX w K L m E):=by
 have h0:=fun W=>QdC s hb hl W
 rw[hh]at h0;have HH:=hid h0;obtain⟨k1,k3,hn,hz1,hz2,-,-⟩:=Qa9 hb hh;have hs0:s≠[]:=by rintro rfl;cases hh
 have hmr:∀cs,o=some cs→IntOk (mergeS nl cs):=by
  intro cs hcs;refine QeW ?_;by_cases hc:cnt nl=nl.length
  ·rw[if_pos hc]at ho;rw[←ho]at hcs;obtain rfl:=Option.some.inj hcs;intro c hc;cases hc
  ·rw[if_neg hc]at ho;rw[←ho]at hcs;have hr:Oct.IsB r:=fun x hx=>hb x (by
    rcases(Qa9 hb hh).2.2.2.2.2.2 with ⟨_,_,_,e⟩|⟨_,_,_,e⟩
    ·rw[e];exact List.mem_cons_of_mem _ (List.mem_append_right _ hx)
    ·rw[e];exact List.mem_cons_of_mem _ (List.mem_append_right _ (List.mem_append_right _ (List.mem_append_right _ hx))))
   exact QhJ hr hcs
 have HMR:=hid hmr;have HSB:=hid hb;have HS0:=hid hs0;obtain⟨S,hS⟩:∃S,strOfNums s=S:=⟨_,rfl⟩;rw[hS]at HH ⊢;have HSS:=hid hS;have HO:=hid ho;have HRES:=hid hres;have HM:=hid hm;obtain⟨n,hnn⟩:∃n,nl.length=n:=⟨_,rfl⟩;have hn2:n≤4096:=by rw[←hnn];exact hn
 have HNN:=hid hnn;have HZ:=hid (And.intro hz1 hz2);clear hS hb hl hh h0 hmr hs0 ho hres hm hnn hn hz1 hz2;go_enter Tryz.func12,Tryz.ntmps12
 go_wp2_with fail
 refine(HH.out _).mono ?_;intro e w1 hx;obtain⟨a,c,b,g,rfl,hsg,hrd,hrb,hrl,hbw,hgw,hab,ht⟩:HeadYes w k nl nl.length z r e w1:=hx;rw[HNN.out]at hsg hab ⊢;have HB1:=heap_alloc_new w1 (.cells #[.int .i64 k,.slice a n c,.int .i64 z.cnt,.int .i64 z.nul,.int .i64 z.min.k,.int .i64 z.min.n,.string z.min.s,.int .i64 z.max.k,.int .i64 z.max.n,.string z.max.s] 69);have t2:Turn w1 (w1.alloc (.cells #[.int .i64 k,.slice a n c,.int .i64 z.cnt,.int .i64 z.nul,.int .i64 z.min.k,.int .i64 z.min.n,.string z.min.s,.int .i64 z.max.k,.int .i64 z.max.n,.string z.max.s] 69)) nowhere:=Turn.alloc _ _ _;obtain⟨W2,hW2⟩:∃V,w1.alloc (.cells #[.int .i64 k,.slice a n c,.int .i64 z.cnt,.int .i64 z.nul,.int .i64 z.min.k,.int .i64 z.min.n,.string z.min.s,.int .i64 z.max.k,.int .i64 z.max.n,.string z.max.s] 69)=V:=⟨_,rfl⟩;obtain⟨hb2,hhb2⟩:∃g,g=w1.heap.size:=⟨_,rfl⟩;rw[hW2]at HB1 t2;rw[←hhb2]at HB1;have H2:Hid (HB W2 hb2 ⟨k,a,n,c,z⟩):=hid HB1;have T2:Hid (Turn w W2 nowhere):=hid (ht.trans t2 (fun _ _ h=>h));have HW2:=hid hW2;have HHB:=hid hhb2;have hbl:=rd_lt hrd;have HGC:=hid (QjB ⟨k,a,n,c,z⟩ b g nl r W2 k1 k3 (hsg.grown t2.grown) hn2 (by rw[HZ.out.1,HNN.out]) HZ.out.2 (In.Turn.rd t2 hrd id id) hab hrb hrl);rw[HO.out]at HGC;have hsz:=t2.size;have hbb:hb2≠b:=by omega
 clear hsg hrd hrb hrl hgw hab ht HB1 t2 hW2 hhb2 HO;dsimp only;go_upto_region 4 with (fail)
 rw[HW2.out,←HHB.out];obtain⟨d0,d1,d2,d3,d4,d5,d6,d7,d8,d9⟩:=H2.out.cellsAt;go_wp2_with fail
 refine HGC.out.mono ?_;cases o with
 |none=>
  rintro e w3 ⟨ht3,er,her,rfl⟩;have hq:(er != 0)=true:=bne_iff_ne.2 her;have h1:=HRES.out;obtain⟨rfl,h2⟩:=Prod.mk.inj h1;obtain⟨rfl,rfl⟩:=Prod.mk.inj h2;obtain rfl:m=0:=by rw[←HM.out];rfl
  have HF:Hid (GetX w 0 [] 0 4 (.returned (.tuple #[.int .i64 0,.slice none 0 0,.int .i64 4])) w3):=hid (Qck (Turn.trans T2.out ht3 (fun i hi e=>by have e2:i=b:=e;omega)).grown);clear ht3 her h1 h2 d0 d1 d2 d3 d4 d5 d6 d7 d8 d9;dsimp only;go_wp2;go_ret3
  exact HF.out
 |some cs=>
  rintro e w3 ⟨ht3,la,lc,rfl,hls⟩;have T3:Hid (Turn w w3 nowhere):=hid (Turn.trans T2.out ht3 (fun i hi e=>by have e2:i=b:=e;omega));have H3:=hid (H2.out.turn ht3 hbb);have L3:=hid hls;have HPU:=hid (Qkh k la n lc (mergeS nl cs) w3 hls (HMR.out cs rfl));clear ht3 hls d0 d1 d2 d3 d4 d5 d6 d7 d8 d9;dsimp only;obtain⟨d0,d1,d2,d3,d4,d5,d6,d7,d8,d9⟩:=H3.out.cellsAt;go_wp2_with fail
  refine HPU.out.mono ?_;intro e w4 hx;obtain⟨rfl,hg4⟩:e=_∧w3.grownBy w4 none:=hx;have T4:=hid (T3.out.trans (Pk.Qc hg4) (fun _ _ h=>h));have H4:=hid (H3.out.old (Pk.Qc hg4));have L4:=hid (L3.out.old hg4);obtain⟨A,hA⟩:∃A,strOfNums (putS k (mergeS nl cs)).2=A:=⟨_,rfl⟩;obtain⟨E1,hE1⟩:∃E1,(putS k (mergeS nl cs)).1=E1:=⟨_,rfl⟩;rw[hA,hE1];have HA:=hid hA;have HE1:=hid hE1;clear hg4 hA hE1 d0 d1 d2 d3 d4 d5 d6 d7 d8 d9 HPU;dsimp only;obtain⟨d0,d1,d2,d3,d4,d5,d6,d7,d8,d9⟩:=H4.out.cellsAt;by_cases hp:putS k (mergeS nl cs)=(0,s)
  ·have h1:=HRES.out;unfold resS at h1;dsimp only at h1;rw[if_pos hp]at h1;obtain⟨rfl,h2⟩:=Prod.mk.inj h1;obtain⟨rfl,rfl⟩:=Prod.mk.inj h2;obtain rfl:m=n:=by rw[←HM.out,QaW,HNN.out]
   have hAS:A=S:=by rw[←HA.out,←HSS.out,hp]
   have q1:(A.toList != S.toList)=false:=by rw[hAS];exact bne_self_eq_false _
   have q2:A.toList=S.toList:=by rw[hAS]
   have HF:Hid (GetX w k (mergeS nl cs) m 0 (.returned (.tuple #[.int .i64 k,.slice la m lc,.int .i64 0])) w4):=hid ⟨la,lc,rfl,L4.out,T4.out.grown⟩;clear h1 h2 hp hAS;go_wp2;go_ret3
   exact HF.out
  ·have h1:=HRES.out;unfold resS at h1;dsimp only at h1;rw[if_neg hp]at h1;obtain⟨rfl,h2⟩:=Prod.mk.inj h1;obtain⟨rfl,rfl⟩:=Prod.mk.inj h2;obtain rfl:m=0:=by rw[←HM.out];rfl
   have hAS:A≠S:=by
    intro e;rw[←HA.out,←HSS.out]at e;by_cases hc:checkS k (mergeS nl cs)=0
    ·have hcol:=QbW.1 hc;have hpo:=Qe9 hcol;rw[hpo]at e hp;exact hp (by rw[Dv.QbF (QaS hcol) HSB.out e])
    ·have hpo:putS k (mergeS nl cs)=(checkS k (mergeS nl cs),[]):=by unfold putS;rw[if_pos hc]
     rw[hpo]at e;exact HS0.out (Dv.QbF (fun x hx=>by cases hx) HSB.out e).symm
   have q1:(A.toList==S.toList)=false:=beq_eq_false_iff_ne.2 (In.Qch hAS);have HF:Hid (GetX w 0 [] 0 4 (.returned (.tuple #[.int .i64 0,.slice none 0 0,.int .i64 4])) w4):=hid (Qck T4.out.grown);clear h1 h2 hp hAS;go_wp2;go_ret3
   exact HF.out
theorem Get_c:GetC:=by
 intro s w hb hl;cases hh:headS s with
 |none=>
  have ho:outS s=(0,[],4):=by unfold outS getS;rw[hh]
  rw[ho];exact QeP s hb hl hh w
 |some p=>
  obtain⟨k,nl,z,r⟩:=p;obtain⟨K,L,E,hres⟩:∃K L E,outS s=(K,L,E):=⟨_,_,_,rfl⟩;rw[hres];refine QdN s hb hl k nl z r hh _ rfl K L L.length E ?_ rfl w;rw[←hres];unfold outS getS;rw[hh];dsimp only;cases (if cnt nl=nl.length then some [] else cellsS k (nl.length-cnt nl) r) with
  |none=>rfl
  |some cs=>
   unfold resS;dsimp only;by_cases hp:putS k (mergeS nl cs)=(0,s)
   ·rw[if_pos hp,if_pos hp]
   ·rw[if_neg hp,if_neg hp]
end Sg
namespace Sg
open Go.RowKit Go.Joins Zn Zr Dv
open Nu (cnt nextP)
theorem Qkl{w:World}{n c:Nat}{a:Option Addr}{l:List Cel}(hs:CSeg w a n c l):∀ad,a=some ad→n≠0→ad.block<w.heap.size:=by
 intro ad had hn;subst had;obtain⟨B,O,e,h⟩:=hs.form (by omega);cases e
 exact World.block_lt_of_cell? w _ (h 0 (by omega)).1
theorem QgJ{w w':World}{a:Option Addr}{n c:Nat}{l:List Cel}{S:Nat→Prop}(h:CSeg w a n c l)(k:Turn w w' S)(hS:∀ad,a=some ad→n≠0→¬S ad.block):CSeg w' a n c l:=
 ⟨h.len,h.le,h.cap,h.nil_,fun ad had j u hu=>k.cell (h.at_ ad had j u hu) (by
  have hn:n≠0:=by
   intro e;have:=(List.getElem?_eq_some_iff.1 hu).1;rw[QbS,h.len]at this;omega
  have:=hS ad had hn;unfold Addr.add;split <;> exact this)⟩
theorem QoQ(s:List Int)(hb:Bs.IsB s)(hl:s.length≤100000000)(hh:headS s=none)(w:World):Calls Tryz.prog 17 #[.string (strOfNums s)] w (GetX w 0 [] 0 4):=by
 have h0:=fun W=>QaF s hb hl W
 rw[hh]at h0;have HH:=hid h0;obtain⟨S,hS⟩:∃S,strOfNums s=S:=⟨_,rfl⟩;rw[hS]at HH ⊢;clear hS hb hl hh h0;go_enter Tryz.func17,Tryz.ntmps17
 go_wp2_with fail
 refine(HH.out _).mono ?_;intro e w1 hx;obtain⟨rfl,ht⟩:RHeadNo w e w1:=hx;have HF:Hid (GetX w 0 [] 0 4 (.returned (.tuple #[.int .i64 0,.slice none 0 0,.int .i64 4])) (w1.alloc (.cells #[.int .i64 0,.int .i64 0,.int .i64 0,.int .i64 0,.string ⟨#[]⟩,.int .i64 0,.int .i64 0,.string ⟨#[]⟩] 33))):=hid (Qck (Qa ht.grown (Qb _ _)));clear ht;dsimp only;go_wp2;go_ret3
 exact HF.out
theorem QoF(s:List Int)(hb:Bs.IsB s)(hl:s.length≤100000000)(k:Int)(nl:List Bool)(z:Zon)(r:List Int)(hh:headS s=some (k,nl,z,r))(hcn:cnt nl=nl.length)
  (K:Int) (L:List Cel) (m:Nat) (E:Int) (hres:resS k nl s (some [])=(K,L,E)) (hm:L.length=m) (w:World) :
  Calls Tryz.prog 17 #[.string (strOfNums s)] w (GetX w K L m E):=by
 have h0:=fun W=>QaF s hb hl W
 rw[hh]at h0;have HH:=hid h0;obtain⟨k1,k3,hn,hz1,hz2,-,-⟩:=Qa9 hb hh;have hs0:s≠[]:=by rintro rfl;cases hh
 have hr:Oct.IsB r:=fun x hx=>hb x (by
  rcases(Qa9 hb hh).2.2.2.2.2.2 with ⟨_,_,_,e⟩|⟨_,_,_,e⟩
  ·rw[e];exact List.mem_cons_of_mem _ (List.mem_append_right _ hx)
  ·rw[e];exact List.mem_cons_of_mem _ (List.mem_append_right _ (List.mem_append_right _ (List.mem_append_right _ hx))))
 have HSB:=hid hb;have HS0:=hid hs0;obtain⟨S,hS⟩:∃S,strOfNums s=S:=⟨_,rfl⟩;rw[hS]at HH ⊢;have HSS:=hid hS;have HRES:=hid hres;have HM:=hid hm;obtain⟨n,hnn⟩:∃n,nl.length=n:=⟨_,rfl⟩;have hn2:n≤4096:=by rw[←hnn];exact hn
 have HNN:=hid hnn;have hcl:=Nu.QaK nl;rw[hnn]at hcl;obtain⟨C,hC⟩:∃C,cnt nl=C:=⟨_,rfl⟩;have HCN:=hid hC;have hCn:C=n:=by rw[←hC,hcn,hnn]
 have HZ:Hid (z.cnt=(n:Int)∧z.nul=(C:Int)):=hid ⟨by rw[hz1,hnn],by rw[hz2,hC]⟩;obtain⟨cs,hcs⟩:∃cs:List Cel,cs=[]:=⟨_,rfl⟩;obtain⟨ca,hca⟩:∃ca:Option Addr,ca=none:=⟨_,rfl⟩;obtain⟨M,hM⟩:∃M:Nat,M=0:=⟨_,rfl⟩;obtain⟨ck,hck⟩:∃ck:Nat,ck=0:=⟨_,rfl⟩;have HMM:Hid (n=C+M):=hid (by omega);have HMR:Hid (IntOk (mergeS nl cs)):=hid (QeW (by rw[hcs];intro c hc;cases hc));have HCS:Hid (∀W,CSeg W ca M ck cs):=hid (fun W=>by rw[hcs,hca,hM,hck];exact CSeg.nil W);have HLIT:Hid (Value.slice none 0 0=.slice ca M ck):=hid (by rw[hca,hM,hck]);have hM4:M≤4096:=by omega
 rw[←hcs]at HRES;have qz:((n:Int) != (C:Int))=false:=by rw[hCn];exact bne_self_eq_false _
 have hmk:=Q3 n (by omega);clear hS hb hl hh h0 hs0 hres hm hnn hn hz1 hz2 hr hcs hca hM hck hCn hcn hC hcl;go_enter Tryz.func17,Tryz.ntmps17
 go_wp2_with fail
 refine(HH.out _).mono ?_;intro e w1 hx;obtain⟨a,c,ra,rc,rfl,hsg,hsr,hrb,hrl,ht⟩:RHeadYes w k nl nl.length z r e w1:=hx;rw[HNN.out]at hsg ⊢;obtain⟨zk,hzk⟩:∃zk,zk=(⟨(n:Int),(C:Int),z.min,z.max⟩:Zon):=⟨_,rfl⟩;have hzz:z=zk:=by rw[hzk,←HZ.out.1,←HZ.out.2]
 obtain⟨W2,hW2⟩:∃V,w1.alloc (.cells #[.int .i64 z.cnt,.int .i64 z.nul,.int .i64 z.min.k,.int .i64 z.min.n,.string z.min.s,.int .i64 z.max.k,.int .i64 z.max.n,.string z.max.s] 33)=V:=⟨_,rfl⟩;obtain⟨gz,hgz⟩:∃g,g=w1.heap.size:=⟨_,rfl⟩;have HW2:=hid hW2;have HGZ:=hid hgz;have B2:Hid (ZB W2 gz ⟨(n:Int),(C:Int),z.min,z.max⟩):=hid (by rw[←hW2,hgz,←hzk,←hzz];exact ZB.new w1 z);have t2:w1.grownBy W2 none:=by rw[←hW2];exact Qb _ _
 have T2:=hid (ht.trans (Pk.Qc t2) (fun _ _ h=>h));have N2:=hid (hsg.grown t2);have S2:=hid (hsr.grown t2);have RB:=hid (And.intro hrb hrl);clear hsg hsr hrb hrl ht t2 hW2 hgz hzk hzz HH HZ;dsimp only;go_upto_region 5 with (fail)
 rw[HW2.out,←HGZ.out];obtain⟨d0,d1,-⟩:=B2.out.cells;have HCW:=hid (HCS.out W2);have hlit:=HLIT.out;rw[hlit];clear hlit HCS HLIT;go_upto_region 10 with (fail)
 have R6:=hid (Q6 n (by omega) W2);have t6:=Turn.alloc W2 (.cells (roomC n) 24) nowhere;have T6:=hid (T2.out.trans t6 (fun _ _ h=>h));have N6:=hid (N2.out.grown t6.grown);have C6:=hid (HCW.out.old t6.grown);have FN6:Hid (∀ad,a=some ad→n≠0→ad.block≠W2.heap.size):=hid (fun ad e h=>by have:=Qbu N2.out ad e h;omega);have FC6:Hid (∀ad,ca=some ad→M≠0→ad.block≠W2.heap.size):=hid (fun ad e h=>by have:=Qkl HCW.out ad e h;omega);have h0l:w.heap.size≤W2.heap.size:=T2.out.size;obtain⟨w6,hw6⟩:∃V,W2.alloc (.cells (roomC n) 24)=V:=⟨_,rfl⟩;obtain⟨gl,hgl⟩:∃g,g=W2.heap.size:=⟨_,rfl⟩;rw[hw6]at R6 T6 N6 C6 ⊢;rw[←hgl]at R6 FN6 FC6 h0l ⊢;have HL0:Hid (fillD nl cs 0=List.replicate n zeroC):=hid (by rw[Qb4,HNN.out]);clear hw6 hgl t6 d0 d1 hmk T2 N2 HCW;go_wp2
 go_loopw [12,13] (fun nv iv wx=>∃k:Nat,nv=.int .i64 ((nextP (nl.take k):Nat):Int)∧iv=.int .i64 k∧k≤n∧Hid (wx.ownsRow gl 24 3 (.slice (some ⟨gl,0,none⟩) n n) n (flatC (fillD nl cs k)))∧Hid (Turn w6 wx (·=gl))) (fun _ iv _=>n-(intOf iv).toNat)
 case atStart=>exact⟨0,rfl,rfl,Nat.zero_le _,hid (by rw[HL0.out];exact R6.out),hid (Turn.refl _ _)⟩
 case round=>
  obtain⟨j,rfl,rfl,hj,RK,TK⟩:=hrel;by_cases hlt:j<n
  ·have hkl:j<nl.length:=by rw[HNN.out];exact hlt
   obtain⟨x,hx⟩:∃x,nl.getD j false=x:=⟨_,rfl⟩;have hlt2:(j:Int)<(n:Int):=by omega
   have hj0:(0:Int)≤(j:Int):=by omega
   obtain⟨Bf,Of,rfl,hfl⟩:=N6.out.addr (by omega);have hfc:=TK.out.cell (hfl j hlt) (show ¬Bf=gl from FN6.out ⟨Bf,Of,none⟩ rfl (by omega));rw[hx]at hfc;have HNX:=hid (Nu.Qfw nl j hkl x hx).2;have HST:=hid (Qb9 nl cs j hkl x hx);cases x with
   |true=>
    have HST2:=hid (HST.out.trans (if_pos rfl));have HNX2:Hid (nextP (nl.take (j+1))=nextP (nl.take j)):=hid (HNX.out);clear hx hfl HST HNX;go_wp2;go_roundw
    case rel=>exact⟨j+1,by rw[HNX2.out],by go_num,by omega,hid (by rw[HST2.out];exact RK.out),TK⟩
    case measure=>simp[intOf];omega
   |false=>
    have HST2:=hid (HST.out.trans (if_neg (by decide)));have HNX2:Hid (nextP (nl.take (j+1))=nextP (nl.take j)+1):=hid (HNX.out);have hiM0:=QdT nl j hkl hx;obtain⟨i,hi⟩:∃i,i=nextP (nl.take j):=⟨_,rfl⟩;have HI:=hid hi;rw[←hi]at hiM0 ⊢;have hiM:i<M:=by have h1:=HMM.out;have h2:=HNN.out;have h3:=HCN.out;omega
    rw[←hi]at HST2 HNX2;have C7:CSeg wr ca M ck cs:=QgJ C6.out TK.out (fun ad e h=>FC6.out ad e h);obtain⟨B,O,rfl,hcx⟩:=C7.form (by omega);obtain⟨y,hy⟩:∃y,y=cs.getD i zeroC:=⟨_,rfl⟩;rw[←hy]at HST2;obtain⟨c0,c1,c2⟩:=Qp C7 hiM hy;obtain⟨x0,x1,x2⟩:=(CSeg.own RK.out).cells0 j hlt;have f0:=RK.out.frozenAt (j*3);have f1:=RK.out.frozenAt (j*3+1);have f2:=RK.out.frozenAt (j*3+2);have hrs:=QdS RK.out j y (by rw[QcF _ _ _ (by omega)];exact hkl);have HRS:=hid hrs;have hi0:(0:Int)≤(i:Int):=by omega
    have hi1:(i:Int)<(M:Int):=by omega
    have hi4:i≤4096:=by omega
    clear hx hfl HST HNX hcx hi hy hrs hiM0;go_upto_region 16 with (fail)
    obtain⟨W7,hW7⟩:∃V,((wr.setCell ⟨gl,j*3,none⟩ (.int .i64 y.k)).setCell ⟨gl,j*3+1,none⟩ (.int .i64 y.n)).setCell ⟨gl,j*3+2,none⟩ (.string y.s)=V:=⟨_,rfl⟩;rw[hW7]at HRS ⊢;have R7:Hid (W7.ownsRow gl 24 3 (.slice (some ⟨gl,0,none⟩) n n) n (flatC (fillD nl cs (j+1)))):=hid (by rw[HST2.out];exact HRS.out.1);have T7:=hid (TK.out.trans (Turn.QD HRS.out.2 (fun i e _=>(Option.some.inj e).symm)) (fun _ _ h=>h));clear hW7 HRS HST2 c0 c1 c2 x0 x1 x2 f0 f1 f2 hfc C7 RK TK;go_wp2;go_roundw
    case rel=>exact⟨j+1,by rw[HNX2.out];go_num,by go_num,by omega,R7,T7⟩
    case measure=>simp[intOf];omega
  ·obtain rfl:j=n:=by omega
   have hF:fillD nl cs j=mergeS nl cs:=by have h:=QcE nl cs;rwa [HNN.out]at h
   rw[hF]at RK;have T8:Hid (Turn w wr nowhere):=hid (T6.out.trans TK.out (fun i hi e=>by have h2:i=gl:=e;omega));have L8:=hid (CSeg.own RK.out);have HPU:=hid (Qay k (some ⟨gl,0,none⟩) j j (mergeS nl cs) wr L8.out HMR.out);clear hF hlt RK TK HL0 R6 N6 C6 FN6 FC6 T6;go_wp2_with fail
   refine HPU.out.mono ?_;intro e w4 hx;obtain⟨rfl,hb4⟩:e=_∧Below wr.heap.size wr w4:=hx;have t4:=Nu.Qd hb4;have T4:=hid (T8.out.trans t4 (fun _ _ h=>h));have L4:=hid (L8.out.old t4.grown);obtain⟨A,hA⟩:∃A,strOfNums (putS k (mergeS nl cs)).2=A:=⟨_,rfl⟩;obtain⟨E1,hE1⟩:∃E1,(putS k (mergeS nl cs)).1=E1:=⟨_,rfl⟩;rw[hA,hE1];have HA:=hid hA;have HE1:=hid hE1;clear hb4 t4 hA hE1 HPU T8 L8;dsimp only;by_cases hp:putS k (mergeS nl cs)=(0,s)
   ·have h1:=HRES.out;unfold resS at h1;dsimp only at h1;rw[if_pos hp]at h1;obtain⟨rfl,h2⟩:=Prod.mk.inj h1;obtain⟨rfl,rfl⟩:=Prod.mk.inj h2;obtain rfl:m=j:=by rw[←HM.out,QaW,HNN.out]
    have hAS:A=S:=by rw[←HA.out,←HSS.out,hp]
    have hE0:E1=0:=by rw[←HE1.out,hp]
    have q0:(E1 != 0)=false:=by rw[hE0];rfl
    have q1:(A.toList != S.toList)=false:=by rw[hAS];exact bne_self_eq_false _
    have q2:A.toList=S.toList:=by rw[hAS]
    have HF:Hid (GetX w k (mergeS nl cs) m 0 (.returned (.tuple #[.int .i64 k,.slice (some ⟨gl,0,none⟩) m m,.int .i64 0])) w4):=hid ⟨_,_,rfl,L4.out,T4.out.grown⟩;clear h1 h2 hp hAS hE0;go_wp2;go_ret3
    exact HF.out
   ·have h1:=HRES.out;unfold resS at h1;dsimp only at h1;rw[if_neg hp]at h1;obtain⟨rfl,h2⟩:=Prod.mk.inj h1;obtain⟨rfl,rfl⟩:=Prod.mk.inj h2;obtain rfl:m=0:=by rw[←HM.out];rfl
    have HF:Hid (GetX w 0 [] 0 4 (.returned (.tuple #[.int .i64 0,.slice none 0 0,.int .i64 4])) w4):=hid (Qck T4.out.grown);by_cases hE0:E1=0
    ·have q0:(E1 != 0)=false:=by rw[hE0];rfl
     have hAS:A≠S:=by
      intro e;rw[←HA.out,←HSS.out]at e;have hc:checkS k (mergeS nl cs)=0:=by rw[←put_e,HE1.out,hE0]
      have hcol:=QbW.1 hc;have hpo:=Qe9 hcol;rw[hpo]at e hp;exact hp (by rw[Dv.QbF (QaS hcol) HSB.out e])
     have q1:(A.toList==S.toList)=false:=beq_eq_false_iff_ne.2 (In.Qch hAS);clear h1 h2 hp hAS hE0;go_wp2;go_ret3
     exact HF.out
    ·have q0:(E1 != 0)=true:=bne_iff_ne.2 hE0;clear h1 h2 hp hE0;go_wp2;go_ret3
     exact HF.out
theorem QeY(s:List Int)(hb:Bs.IsB s)(hl:s.length≤100000000)(k:Int)(nl:List Bool)(z:Zon)(r:List Int)(hh:headS s=some (k,nl,z,r))(hcn:cnt nl≠nl.length)(ho:cellsS k (nl.length-cnt nl) r=none)
  (K:Int) (L:List Cel) (m:Nat) (E:Int) (hres:resS k nl s none=(K,L,E)) (hm:L.length=m) (w:World) :
  Calls Tryz.prog 17 #[.string (strOfNums s)] w (GetX w K L m E):=by
 have h0:=fun W=>QaF s hb hl W
 rw[hh]at h0;have HH:=hid h0;obtain⟨k1,k3,hn,hz1,hz2,-,-⟩:=Qa9 hb hh;have hs0:s≠[]:=by rintro rfl;cases hh
 have hr:Oct.IsB r:=fun x hx=>hb x (by
  rcases(Qa9 hb hh).2.2.2.2.2.2 with ⟨_,_,_,e⟩|⟨_,_,_,e⟩
  ·rw[e];exact List.mem_cons_of_mem _ (List.mem_append_right _ hx)
  ·rw[e];exact List.mem_cons_of_mem _ (List.mem_append_right _ (List.mem_append_right _ (List.mem_append_right _ hx))))
 have HSB:=hid hb;have HS0:=hid hs0;obtain⟨S,hS⟩:∃S,strOfNums s=S:=⟨_,rfl⟩;rw[hS]at HH ⊢;have HSS:=hid hS;have HRES:=hid hres;have HM:=hid hm;obtain⟨n,hnn⟩:∃n,nl.length=n:=⟨_,rfl⟩;have hn2:n≤4096:=by rw[←hnn];exact hn
 have HNN:=hid hnn;have hcl:=Nu.QaK nl;rw[hnn]at hcl;obtain⟨C,hC⟩:∃C,cnt nl=C:=⟨_,rfl⟩;have hCn:C≠n:=by rw[←hC,←hnn];exact hcn
 have HZ:Hid (z.cnt=(n:Int)∧z.nul=(C:Int)):=hid ⟨by rw[hz1,hnn],by rw[hz2,hC]⟩;obtain⟨M,hM⟩:∃M,M=n-C:=⟨_,rfl⟩;have HMM:Hid (n=C+M):=hid (by omega);have hM4:M≤4096:=by omega
 have hwM:IntKind.i64.wrap ((n:Int)-(C:Int))=(M:Int):=by rw[IntWalk.i64_in _ (by omega)];omega
 have HCC:=hid (fun(a:Option Addr) (c:Nat) (W:World) (h1:Oct.IsB r) (h2:r.length≤100000000) (h:Bs.Seg W a r.length c r)=>Qgh k M a c r W (by omega) (by omega) hM4 h h1 h2);have ho2:cellsS k M r=none:=by rw[hM,←hC,←hnn];exact ho
 rw[ho2]at HCC;have qz:((n:Int) != (C:Int))=true:=bne_iff_ne.2 (by omega);clear hS hb hl hh h0 hs0 hres hm hnn hn hz1 hz2 hr hM hCn hcn hC ho ho2 hcl;go_enter Tryz.func17,Tryz.ntmps17
 go_wp2_with fail
 refine(HH.out _).mono ?_;intro e w1 hx;obtain⟨a,c,ra,rc,rfl,hsg,hsr,hrb,hrl,ht⟩:RHeadYes w k nl nl.length z r e w1:=hx;rw[HNN.out]at hsg ⊢;obtain⟨zk,hzk⟩:∃zk,zk=(⟨(n:Int),(C:Int),z.min,z.max⟩:Zon):=⟨_,rfl⟩;have hzz:z=zk:=by rw[hzk,←HZ.out.1,←HZ.out.2]
 obtain⟨W2,hW2⟩:∃V,w1.alloc (.cells #[.int .i64 z.cnt,.int .i64 z.nul,.int .i64 z.min.k,.int .i64 z.min.n,.string z.min.s,.int .i64 z.max.k,.int .i64 z.max.n,.string z.max.s] 33)=V:=⟨_,rfl⟩;obtain⟨gz,hgz⟩:∃g,g=w1.heap.size:=⟨_,rfl⟩;have HW2:=hid hW2;have HGZ:=hid hgz;have B2:Hid (ZB W2 gz ⟨(n:Int),(C:Int),z.min,z.max⟩):=hid (by rw[←hW2,hgz,←hzk,←hzz];exact ZB.new w1 z);have t2:w1.grownBy W2 none:=by rw[←hW2];exact Qb _ _
 have T2:=hid (ht.trans (Pk.Qc t2) (fun _ _ h=>h));have N2:=hid (hsg.grown t2);have S2:=hid (hsr.grown t2);have RB:=hid (And.intro hrb hrl);clear hsg hsr hrb hrl ht t2 hW2 hgz hzk hzz HH HZ;dsimp only;go_upto_region 5 with (fail)
 rw[HW2.out,←HGZ.out];obtain⟨d0,d1,-⟩:=B2.out.cells;go_wp2_with fail
 refine(HCC.out _ _ _ RB.out.1 RB.out.2 S2.out).mono ?_;rintro e w3 ⟨ht3,rfl⟩;have h1:=HRES.out;obtain⟨rfl,h2⟩:=Prod.mk.inj h1;obtain⟨rfl,rfl⟩:=Prod.mk.inj h2;obtain rfl:m=0:=by rw[←HM.out];rfl
 have HF:Hid (GetX w 0 [] 0 4 (.returned (.tuple #[.int .i64 0,.slice none 0 0,.int .i64 4])) w3):=hid (Qck (T2.out.trans ht3 (fun _ _ h=>h)).grown);clear ht3 h1 h2 d0 d1;dsimp only;go_wp2;go_ret3
 exact HF.out
theorem QlR(s:List Int)(hb:Bs.IsB s)(hl:s.length≤100000000)(k:Int)(nl:List Bool)(z:Zon)(r:List Int)(hh:headS s=some (k,nl,z,r))(hcn:cnt nl≠nl.length)(cs:List Cel)(ho:cellsS k (nl.length-cnt nl) r=some cs)
  (K:Int) (L:List Cel) (m:Nat) (E:Int) (hres:resS k nl s (some cs)=(K,L,E)) (hm:L.length=m) (w:World) :
  Calls Tryz.prog 17 #[.string (strOfNums s)] w (GetX w K L m E):=by
 have h0:=fun W=>QaF s hb hl W
 rw[hh]at h0;have HH:=hid h0;obtain⟨k1,k3,hn,hz1,hz2,-,-⟩:=Qa9 hb hh;have hs0:s≠[]:=by rintro rfl;cases hh
 have hr:Oct.IsB r:=fun x hx=>hb x (by
  rcases(Qa9 hb hh).2.2.2.2.2.2 with ⟨_,_,_,e⟩|⟨_,_,_,e⟩
  ·rw[e];exact List.mem_cons_of_mem _ (List.mem_append_right _ hx)
  ·rw[e];exact List.mem_cons_of_mem _ (List.mem_append_right _ (List.mem_append_right _ (List.mem_append_right _ hx))))
 have HSB:=hid hb;have HS0:=hid hs0;obtain⟨S,hS⟩:∃S,strOfNums s=S:=⟨_,rfl⟩;rw[hS]at HH ⊢;have HSS:=hid hS;have HRES:=hid hres;have HM:=hid hm;obtain⟨n,hnn⟩:∃n,nl.length=n:=⟨_,rfl⟩;have hn2:n≤4096:=by rw[←hnn];exact hn
 have HNN:=hid hnn;have hcl:=Nu.QaK nl;rw[hnn]at hcl;obtain⟨C,hC⟩:∃C,cnt nl=C:=⟨_,rfl⟩;have HCN:=hid hC;have hCn:C≠n:=by rw[←hC,←hnn];exact hcn
 have HZ:Hid (z.cnt=(n:Int)∧z.nul=(C:Int)):=hid ⟨by rw[hz1,hnn],by rw[hz2,hC]⟩;obtain⟨M,hM⟩:∃M,M=n-C:=⟨_,rfl⟩;have HMM:Hid (n=C+M):=hid (by omega);have hM4:M≤4096:=by omega
 have hwM:IntKind.i64.wrap ((n:Int)-(C:Int))=(M:Int):=by rw[IntWalk.i64_in _ (by omega)];omega
 have HMR:Hid (IntOk (mergeS nl cs)):=hid (QeW (QhJ hr ho));have HCC:=hid (fun(a:Option Addr) (c:Nat) (W:World) (h1:Oct.IsB r) (h2:r.length≤100000000) (h:Bs.Seg W a r.length c r)=>Qgh k M a c r W (by omega) (by omega) hM4 h h1 h2);have ho2:cellsS k M r=some cs:=by rw[hM,←hC,←hnn];exact ho
 rw[ho2]at HCC;have qz:((n:Int) != (C:Int))=true:=bne_iff_ne.2 (by omega);have hmk:=Q3 n (by omega);clear hS hb hl hh h0 hs0 hres hm hnn hn hz1 hz2 hr hM hCn hcn hC ho ho2 hcl;go_enter Tryz.func17,Tryz.ntmps17
 go_wp2_with fail
 refine(HH.out _).mono ?_;intro e w1 hx;obtain⟨a,c,ra,rc,rfl,hsg,hsr,hrb,hrl,ht⟩:RHeadYes w k nl nl.length z r e w1:=hx;rw[HNN.out]at hsg ⊢;obtain⟨zk,hzk⟩:∃zk,zk=(⟨(n:Int),(C:Int),z.min,z.max⟩:Zon):=⟨_,rfl⟩;have hzz:z=zk:=by rw[hzk,←HZ.out.1,←HZ.out.2]
 obtain⟨W2,hW2⟩:∃V,w1.alloc (.cells #[.int .i64 z.cnt,.int .i64 z.nul,.int .i64 z.min.k,.int .i64 z.min.n,.string z.min.s,.int .i64 z.max.k,.int .i64 z.max.n,.string z.max.s] 33)=V:=⟨_,rfl⟩;obtain⟨gz,hgz⟩:∃g,g=w1.heap.size:=⟨_,rfl⟩;have HW2:=hid hW2;have HGZ:=hid hgz;have B2:Hid (ZB W2 gz ⟨(n:Int),(C:Int),z.min,z.max⟩):=hid (by rw[←hW2,hgz,←hzk,←hzz];exact ZB.new w1 z);have t2:w1.grownBy W2 none:=by rw[←hW2];exact Qb _ _
 have T2:=hid (ht.trans (Pk.Qc t2) (fun _ _ h=>h));have N2:=hid (hsg.grown t2);have S2:=hid (hsr.grown t2);have RB:=hid (And.intro hrb hrl);clear hsg hsr hrb hrl ht t2 hW2 hgz hzk hzz HH HZ;dsimp only;go_upto_region 5 with (fail)
 rw[HW2.out,←HGZ.out];obtain⟨d0,d1,-⟩:=B2.out.cells;go_wp2_with fail
 refine(HCC.out _ _ _ RB.out.1 RB.out.2 S2.out).mono ?_;rintro e w3 ⟨ht3,ca,ck,rfl,hcs3⟩;have HCW:=hid hcs3;have N3:=hid (N2.out.grown ht3.grown);have T3:=hid (T2.out.trans ht3 (fun _ _ h=>h));clear ht3 hcs3 N2 T2 S2 HCC hwM;dsimp only;go_upto_region 10 with (fail)
 have R6:=hid (Q6 n (by omega) w3);have t6:=Turn.alloc w3 (.cells (roomC n) 24) nowhere;have T6:=hid (T3.out.trans t6 (fun _ _ h=>h));have N6:=hid (N3.out.grown t6.grown);have C6:=hid (HCW.out.old t6.grown);have FN6:Hid (∀ad,a=some ad→n≠0→ad.block≠w3.heap.size):=hid (fun ad e h=>by have:=Qbu N3.out ad e h;omega);have FC6:Hid (∀ad,ca=some ad→M≠0→ad.block≠w3.heap.size):=hid (fun ad e h=>by have:=Qkl HCW.out ad e h;omega);have h0l:w.heap.size≤w3.heap.size:=T3.out.size;obtain⟨w6,hw6⟩:∃V,w3.alloc (.cells (roomC n) 24)=V:=⟨_,rfl⟩;obtain⟨gl,hgl⟩:∃g,g=w3.heap.size:=⟨_,rfl⟩;rw[hw6]at R6 T6 N6 C6 ⊢;rw[←hgl]at R6 FN6 FC6 h0l ⊢;have HL0:Hid (fillD nl cs 0=List.replicate n zeroC):=hid (by rw[Qb4,HNN.out]);clear hw6 hgl t6 d0 d1 hmk T3 N3 HCW;go_wp2
 go_loopw [12,13] (fun nv iv wx=>∃k:Nat,nv=.int .i64 ((nextP (nl.take k):Nat):Int)∧iv=.int .i64 k∧k≤n∧Hid (wx.ownsRow gl 24 3 (.slice (some ⟨gl,0,none⟩) n n) n (flatC (fillD nl cs k)))∧Hid (Turn w6 wx (·=gl))) (fun _ iv _=>n-(intOf iv).toNat)
 case atStart=>exact⟨0,rfl,rfl,Nat.zero_le _,hid (by rw[HL0.out];exact R6.out),hid (Turn.refl _ _)⟩
 case round=>
  obtain⟨j,rfl,rfl,hj,RK,TK⟩:=hrel;by_cases hlt:j<n
  ·have hkl:j<nl.length:=by rw[HNN.out];exact hlt
   obtain⟨x,hx⟩:∃x,nl.getD j false=x:=⟨_,rfl⟩;have hlt2:(j:Int)<(n:Int):=by omega
   have hj0:(0:Int)≤(j:Int):=by omega
   obtain⟨Bf,Of,rfl,hfl⟩:=N6.out.addr (by omega);have hfc:=TK.out.cell (hfl j hlt) (show ¬Bf=gl from FN6.out ⟨Bf,Of,none⟩ rfl (by omega));rw[hx]at hfc;have HNX:=hid (Nu.Qfw nl j hkl x hx).2;have HST:=hid (Qb9 nl cs j hkl x hx);cases x with
   |true=>
    have HST2:=hid (HST.out.trans (if_pos rfl));have HNX2:Hid (nextP (nl.take (j+1))=nextP (nl.take j)):=hid (HNX.out);clear hx hfl HST HNX;go_wp2;go_roundw
    case rel=>exact⟨j+1,by rw[HNX2.out],by go_num,by omega,hid (by rw[HST2.out];exact RK.out),TK⟩
    case measure=>simp[intOf];omega
   |false=>
    have HST2:=hid (HST.out.trans (if_neg (by decide)));have HNX2:Hid (nextP (nl.take (j+1))=nextP (nl.take j)+1):=hid (HNX.out);have hiM0:=QdT nl j hkl hx;obtain⟨i,hi⟩:∃i,i=nextP (nl.take j):=⟨_,rfl⟩;have HI:=hid hi;rw[←hi]at hiM0 ⊢;have hiM:i<M:=by have h1:=HMM.out;have h2:=HNN.out;have h3:=HCN.out;omega
    rw[←hi]at HST2 HNX2;have C7:CSeg wr ca M ck cs:=QgJ C6.out TK.out (fun ad e h=>FC6.out ad e h);obtain⟨B,O,rfl,hcx⟩:=C7.form (by omega);obtain⟨y,hy⟩:∃y,y=cs.getD i zeroC:=⟨_,rfl⟩;rw[←hy]at HST2;obtain⟨c0,c1,c2⟩:=Qp C7 hiM hy;obtain⟨x0,x1,x2⟩:=(CSeg.own RK.out).cells0 j hlt;have f0:=RK.out.frozenAt (j*3);have f1:=RK.out.frozenAt (j*3+1);have f2:=RK.out.frozenAt (j*3+2);have hrs:=QdS RK.out j y (by rw[QcF _ _ _ (by omega)];exact hkl);have HRS:=hid hrs;have hi0:(0:Int)≤(i:Int):=by omega
    have hi1:(i:Int)<(M:Int):=by omega
    have hi4:i≤4096:=by omega
    clear hx hfl HST HNX hcx hi hy hrs hiM0;go_upto_region 16 with (fail)
    obtain⟨W7,hW7⟩:∃V,((wr.setCell ⟨gl,j*3,none⟩ (.int .i64 y.k)).setCell ⟨gl,j*3+1,none⟩ (.int .i64 y.n)).setCell ⟨gl,j*3+2,none⟩ (.string y.s)=V:=⟨_,rfl⟩;rw[hW7]at HRS ⊢;have R7:Hid (W7.ownsRow gl 24 3 (.slice (some ⟨gl,0,none⟩) n n) n (flatC (fillD nl cs (j+1)))):=hid (by rw[HST2.out];exact HRS.out.1);have T7:=hid (TK.out.trans (Turn.QD HRS.out.2 (fun i e _=>(Option.some.inj e).symm)) (fun _ _ h=>h));clear hW7 HRS HST2 c0 c1 c2 x0 x1 x2 f0 f1 f2 hfc C7 RK TK;go_wp2;go_roundw
    case rel=>exact⟨j+1,by rw[HNX2.out];go_num,by go_num,by omega,R7,T7⟩
    case measure=>simp[intOf];omega
  ·obtain rfl:j=n:=by omega
   have hF:fillD nl cs j=mergeS nl cs:=by have h:=QcE nl cs;rwa [HNN.out]at h
   rw[hF]at RK;have T8:Hid (Turn w wr nowhere):=hid (T6.out.trans TK.out (fun i hi e=>by have h2:i=gl:=e;omega));have L8:=hid (CSeg.own RK.out);have HPU:=hid (Qay k (some ⟨gl,0,none⟩) j j (mergeS nl cs) wr L8.out HMR.out);clear hF hlt RK TK HL0 R6 N6 C6 FN6 FC6 T6;go_wp2_with fail
   refine HPU.out.mono ?_;intro e w4 hx;obtain⟨rfl,hb4⟩:e=_∧Below wr.heap.size wr w4:=hx;have t4:=Nu.Qd hb4;have T4:=hid (T8.out.trans t4 (fun _ _ h=>h));have L4:=hid (L8.out.old t4.grown);obtain⟨A,hA⟩:∃A,strOfNums (putS k (mergeS nl cs)).2=A:=⟨_,rfl⟩;obtain⟨E1,hE1⟩:∃E1,(putS k (mergeS nl cs)).1=E1:=⟨_,rfl⟩;rw[hA,hE1];have HA:=hid hA;have HE1:=hid hE1;clear hb4 t4 hA hE1 HPU T8 L8;dsimp only;by_cases hp:putS k (mergeS nl cs)=(0,s)
   ·have h1:=HRES.out;unfold resS at h1;dsimp only at h1;rw[if_pos hp]at h1;obtain⟨rfl,h2⟩:=Prod.mk.inj h1;obtain⟨rfl,rfl⟩:=Prod.mk.inj h2;obtain rfl:m=j:=by rw[←HM.out,QaW,HNN.out]
    have hAS:A=S:=by rw[←HA.out,←HSS.out,hp]
    have hE0:E1=0:=by rw[←HE1.out,hp]
    have q0:(E1 != 0)=false:=by rw[hE0];rfl
    have q1:(A.toList != S.toList)=false:=by rw[hAS];exact bne_self_eq_false _
    have q2:A.toList=S.toList:=by rw[hAS]
    have HF:Hid (GetX w k (mergeS nl cs) m 0 (.returned (.tuple #[.int .i64 k,.slice (some ⟨gl,0,none⟩) m m,.int .i64 0])) w4):=hid ⟨_,_,rfl,L4.out,T4.out.grown⟩;clear h1 h2 hp hAS hE0;go_wp2;go_ret3
    exact HF.out
   ·have h1:=HRES.out;unfold resS at h1;dsimp only at h1;rw[if_neg hp]at h1;obtain⟨rfl,h2⟩:=Prod.mk.inj h1;obtain⟨rfl,rfl⟩:=Prod.mk.inj h2;obtain rfl:m=0:=by rw[←HM.out];rfl
    have HF:Hid (GetX w 0 [] 0 4 (.returned (.tuple #[.int .i64 0,.slice none 0 0,.int .i64 4])) w4):=hid (Qck T4.out.grown);by_cases hE0:E1=0
    ·have q0:(E1 != 0)=false:=by rw[hE0];rfl
     have hAS:A≠S:=by
      intro e;rw[←HA.out,←HSS.out]at e;have hc:checkS k (mergeS nl cs)=0:=by rw[←put_e,HE1.out,hE0]
      have hcol:=QbW.1 hc;have hpo:=Qe9 hcol;rw[hpo]at e hp;exact hp (by rw[Dv.QbF (QaS hcol) HSB.out e])
     have q1:(A.toList==S.toList)=false:=beq_eq_false_iff_ne.2 (In.Qch hAS);clear h1 h2 hp hAS hE0;go_wp2;go_ret3
     exact HF.out
    ·have q0:(E1 != 0)=true:=bne_iff_ne.2 hE0;clear h1 h2 hp hE0;go_wp2;go_ret3
     exact HF.out
theorem Qoz(s:List Int)(hb:Bs.IsB s)(hl:s.length≤100000000)(w:World):Calls Tryz.prog 17 #[.string (strOfNums s)] w (GetX w (outS s).1 (outS s).2.1 (outS s).2.1.length (outS s).2.2):=by
 cases hh:headS s with
 |none=>
  have ho:outS s=(0,[],4):=by unfold outS getS;rw[hh]
  rw[ho];exact QoQ s hb hl hh w
 |some p=>
  obtain⟨k,nl,z,r⟩:=p;obtain⟨K,L,E,hres⟩:∃K L E,outS s=(K,L,E):=⟨_,_,_,rfl⟩;have hR:∀o,(if cnt nl=nl.length then some [] else cellsS k (nl.length-cnt nl) r)=o→resS k nl s o=(K,L,E):=by
   intro o ho;rw[←hres];unfold outS getS;rw[hh];dsimp only;rw[ho];cases o with
   |none=>rfl
   |some cs=>
    unfold resS;dsimp only;by_cases hp:putS k (mergeS nl cs)=(0,s)
    ·rw[if_pos hp,if_pos hp]
    ·rw[if_neg hp,if_neg hp]
  rw[hres];by_cases hc:cnt nl=nl.length
  ·exact QoF s hb hl k nl z r hh hc K L L.length E (hR _ (if_pos hc)) rfl w
  ·cases ho:cellsS k (nl.length-cnt nl) r with
   |none=>exact QeY s hb hl k nl z r hh hc ho K L L.length E (hR _ ((if_neg hc).trans ho)) rfl w
   |some cs=>exact QlR s hb hl k nl z r hh hc cs ho K L L.length E (hR _ ((if_neg hc).trans ho)) rfl w
end Sg
namespace Sg
open Go.RowKit Go.Joins Zn Zr
theorem calls_any(HP:PutC)(HC:CheckC)(HG:GetC)(HZ:ZoneC)(kind:Int)(a:Option Addr)(n c:Nat)(l:List Cel)(s:List Int)(w:World)(hs:CSeg w a n c l)(ho:StrsOk l)(hi:IntOk l)(hb:Bs.IsB s)(hsl:s.length≤140737488355328) :
  Calls Tryz.prog 4 #[.int .i64 kind,.slice a n c,.string (strOfNums s)] w fun e w'=>e=.returned (.bool true)∧Below w.heap.size w w':=by
 have HS:=hid hs;have HL:=hid hs.len;have HOK:=hid ho;have HI:=hid hi;have HB:=hid hb;have HSZ:=hid (strOfNums_size s);have HP1:=hid HP;have HC1:=hid HC;have HG1:=hid HG;have HZ1:=hid HZ;clear hs ho hi hb HP HC HG HZ;obtain⟨S,hS⟩:∃S,S=strOfNums s:=⟨_,rfl⟩;rw[←hS];have hsz:S.size=s.length:=by rw[hS];exact HSZ.out
 have HSS:=hid hS;clear hS;go_enter Tryz.func4,Tryz.ntmps4
 go_wp2_with fail
 refine(Qm5 HP1.out _).mono ?_;rintro e w1 ⟨rfl,hg⟩;have G1:=hid hg;clear hg;dsimp only;go_wp2_with fail
 refine(Qmt a n c l _ (HS.out.old G1.out) HOK.out).mono ?_;rintro e wl ⟨lb,rfl,hlb,rfl⟩;have HLB:=hid hlb;clear hlb;cases lb
 ·dsimp only;go_wp2;go_ret
  exact⟨rfl,QW G1.out⟩
 have hn60:n≤60:=HLB.out rfl;clear HLB;dsimp only;by_cases h600:600<s.length
 ·have q6:(600:Int)<(S.size:Int):=by omega
  go_wp2;go_ret
  exact⟨rfl,QW G1.out⟩
 have q6:¬(600:Int)<(S.size:Int):=by omega
 obtain⟨E,hE⟩:∃E,E=(putS kind l).1:=⟨_,rfl⟩;obtain⟨T,hT⟩:∃T,T=strOfNums (putS kind l).2:=⟨_,rfl⟩;have HPU:=hid (HP1.out kind a n c l w1 (HS.out.old G1.out) HI.out HOK.out (by omega));rw[←hE,←hT]at HPU;have HRP:Hid (∀W,w.grownBy W none→Calls Tryz.prog 16 #[.int .i64 kind,.slice a n c] W fun e w'=>e=.returned (.tuple #[.string T,.int .i64 E])∧W.grownBy w' none):=hid (fun W hg=>(Qay kind a n c l W (HS.out.old hg) HI.out).mono fun e w' (h:_∧_)=>⟨by rw[h.1,hE,hT],(Nu.Qd h.2).grown⟩);obtain⟨ck,hck⟩:∃ck,ck=checkS kind l:=⟨_,rfl⟩;have HCK:Hid (∀W,w.grownBy W none→Calls Tryz.prog 19 #[.int .i64 kind,.slice a n c] W fun e w'=>e=.returned (.int .i64 ck)∧W.grownBy w' none):=hid (fun W hg=>by
  rw[hck];exact HC1.out kind a n c l W (HS.out.old hg) HI.out HOK.out (by omega))
 have HRK:Hid (∀W,w.grownBy W none→Calls Tryz.prog 20 #[.int .i64 kind,.slice a n c] W fun e w'=>e=.returned (.int .i64 ck)∧W.grownBy w' none):=hid (fun W hg=>by
  rw[hck];exact Qcb kind a n c l W (HS.out.old hg))
 obtain⟨gk,gl,ge,hgo⟩:∃gk gl ge,outS s=(gk,gl,ge):=⟨_,_,_,rfl⟩;obtain⟨gn,hgn⟩:∃gn,gl.length=gn:=⟨_,rfl⟩;have HGS:Hid (∀W,Calls Tryz.prog 12 #[.string S] W fun e w'=>∃a c,e=.returned (.tuple #[.int .i64 gk,.slice a gn c,.int .i64 ge])∧CSeg w' a gn c gl∧W.grownBy w' none):=hid (fun W=>by
  have h:=HG1.out s W HB.out (by omega);rw[hgo]at h;dsimp only at h;rw[hgn,←HSS.out]at h;exact h)
 have HRG:Hid (∀W,Calls Tryz.prog 17 #[.string S] W fun e w'=>∃a c,e=.returned (.tuple #[.int .i64 gk,.slice a gn c,.int .i64 ge])∧CSeg w' a gn c gl∧W.grownBy w' none):=hid (fun W=>by
  have h:=Qoz s HB.out (by omega) W;rw[hgo]at h;dsimp only at h;rw[hgn,←HSS.out]at h;exact h)
 obtain⟨zk,z,ze,hzo⟩:∃zk z ze,zoneS s=(zk,z,ze):=⟨_,_,_,rfl⟩;have HZS:Hid (∀W,Calls Tryz.prog 13 #[.string S] W fun e w'=>e=.returned (.tuple #[.int .i64 zk,.agg #[.int .i64 z.cnt,.int .i64 z.nul,.int .i64 z.min.k,.int .i64 z.min.n,.string z.min.s,.int .i64 z.max.k,.int .i64 z.max.n,.string z.max.s],.int .i64 ze])∧W.grownBy w' none):=hid (fun W=>by
  have h:=HZ1.out s W HB.out (by omega);rw[hzo,←HSS.out]at h;exact h)
 have HRZ:Hid (∀W,Calls Tryz.prog 18 #[.string S] W fun e w'=>e=.returned (.tuple #[.int .i64 zk,.agg #[.int .i64 z.cnt,.int .i64 z.nul,.int .i64 z.min.k,.int .i64 z.min.n,.string z.min.s,.int .i64 z.max.k,.int .i64 z.max.n,.string z.max.s],.int .i64 ze])∧W.grownBy w' none):=hid (fun W=>by
  have h:=Qm3 s HB.out (by omega) zk z ze hzo W;rw[←HSS.out]at h;exact h)
 have qT:∀W,(binOp .eql 9 (.string T) (.string T)).run Tryz.prog W=.ok (.bool true) W:=fun W=>by simp[go_sem]
 clear hE hT hck hgo hgn hzo HP1 HC1 HG1 HZ1 HSZ;go_wp2_with fail
 refine HPU.out.mono ?_;rintro e w2 ⟨rfl,hg⟩;have G2:=hid (Qa G1.out hg);clear hg HPU G1;dsimp only;go_wp2_with fail
 refine(HRP.out _ G2.out).mono ?_;rintro e w3 ⟨rfl,hg⟩;have G3:=hid (Qa G2.out hg);clear hg HRP G2;dsimp only;go_wp2_with fail
 refine(HGS.out _).mono ?_;rintro e w4 ⟨a4,c4,rfl,hs4,hg⟩;have S4:=hid hs4;have G4:=hid (Qa G3.out hg);clear hg hs4 HGS G3;dsimp only;go_wp2_with fail
 refine(HRG.out _).mono ?_;rintro e w5 ⟨a5,c5,rfl,hs5,hg⟩;have S5:=hid hs5;have P5:=hid (S4.out.old hg);have G5:=hid (Qa G4.out hg);clear hg hs5 HRG G4 S4;dsimp only;go_wp2_with fail
 refine(HZS.out _).mono ?_;rintro e w6 ⟨rfl,hg⟩;have S6:=hid (S5.out.old hg);have P6:=hid (P5.out.old hg);have G6:=hid (Qa G5.out hg);clear hg HZS G5 S5 P5;dsimp only;go_upto_region 10 with (fail)
 obtain⟨W7,hW7⟩:∃V,w6.alloc (.cells #[.int .i64 z.cnt,.int .i64 z.nul,.int .i64 z.min.k,.int .i64 z.min.n,.string z.min.s,.int .i64 z.max.k,.int .i64 z.max.n,.string z.max.s] 33)=V:=⟨_,rfl⟩;have hg:w6.grownBy W7 none:=by rw[←hW7];exact Qb _ _
 have Z7:Hid (ZB W7 w6.heap.size z):=hid (by rw[←hW7];exact ZB.new w6 z);have S7:=hid (S6.out.old hg);have P7:=hid (P6.out.old hg);have G7:=hid (Qa G6.out hg);rw[hW7];clear hW7 hg G6 S6 P6;generalize w6.heap.size=gz at *;go_wp2_with fail
 refine(HRZ.out _).mono ?_;rintro e w8 ⟨rfl,hg⟩;have Z8:=hid (Z7.out.old hg);have S8:=hid (S7.out.old hg);have P8:=hid (P7.out.old hg);have G8:=hid (Qa G7.out hg);clear hg HRZ G7 S7 P7 Z7;dsimp only;go_upto_region 11 with (fail)
 obtain⟨W9,hW9⟩:∃V,w8.alloc (.cells #[.int .i64 z.cnt,.int .i64 z.nul,.int .i64 z.min.k,.int .i64 z.min.n,.string z.min.s,.int .i64 z.max.k,.int .i64 z.max.n,.string z.max.s] 33)=V:=⟨_,rfl⟩;have hg:w8.grownBy W9 none:=by rw[←hW9];exact Qb _ _
 have Y9:Hid (ZB W9 w8.heap.size z):=hid (by rw[←hW9];exact ZB.new w8 z);have Z9:=hid (Z8.out.old hg);have S9:=hid (S8.out.old hg);have P9:=hid (P8.out.old hg);have G9:=hid (Qa G8.out hg);rw[hW9];clear hW9 hg G8 S8 P8 Z8;generalize w8.heap.size=gy at *;have HSM:=hid (Ql0 a4 a5 gn gn c4 c5 gl gl W9 P9.out S9.out);rw[show sameC gl gl=true from decide_eq_true rfl]at HSM;have qT2:(T.toList==T.toList)=true:=beq_self_eq_true _;have hez:∀W,(binOp .eql 33 (.agg #[.int .i64 z.cnt,.int .i64 z.nul,.int .i64 z.min.k,.int .i64 z.min.n,.string z.min.s,.int .i64 z.max.k,.int .i64 z.max.n,.string z.max.s]) (.agg #[.int .i64 z.cnt,.int .i64 z.nul,.int .i64 z.min.k,.int .i64 z.min.n,.string z.min.s,.int .i64 z.max.k,.int .i64 z.max.n,.string z.max.s])).run Tryz.prog W=.ok (.bool true) W:=fun W=>by
  have h:=QoH z z W
  rwa [QnJ]at h
 have q1:(E==E)=true:=beq_self_eq_true _;have q2:(gk==gk)=true:=beq_self_eq_true _;have q3:(ge==ge)=true:=beq_self_eq_true _;have q4:(zk==zk)=true:=beq_self_eq_true _;have q5:(ze==ze)=true:=beq_self_eq_true _;have q7:(ck==ck)=true:=beq_self_eq_true _;go_wp2_with fail
 refine HSM.out.mono ?_;rintro e w10 ⟨rfl,hg⟩;have Z10:=hid (Z9.out.old hg);have Y10:=hid (Y9.out.old hg);have G10:=hid (Qa G9.out hg);clear hg HSM G9 Z9 Y9 S9 P9;dsimp only;obtain⟨z0,z1,⟨z2,z3,z4⟩,z5,z6,z7⟩:=Z10.out.cells;obtain⟨y0,y1,⟨y2,y3,y4⟩,y5,y6,y7⟩:=Y10.out.cells;go_wp2_with fail
 refine(HCK.out _ G10.out).mono ?_;rintro e w11 ⟨rfl,hg⟩;have G11:=hid (Qa G10.out hg);clear hg HCK G10 Z10 Y10 z0 z1 z2 z3 z4 z5 z6 z7 y0 y1 y2 y3 y4 y5 y6 y7;dsimp only;go_wp2_with fail
 refine(HRK.out _ G11.out).mono ?_;rintro e w12 ⟨rfl,hg⟩;have G12:=hid (Qa G11.out hg);clear hg HRK G11;dsimp only;go_wp2;go_ret
 exact⟨rfl,QW G12.out⟩
end Sg
end Go.Proofs.YtljanfnhmhimiaaGreat
