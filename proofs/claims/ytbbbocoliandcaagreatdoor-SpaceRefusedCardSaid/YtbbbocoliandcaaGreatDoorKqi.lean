/- Parts of the proof. -/
import Derived.Lib.AppendZeros
import Derived.Test.YtbbbocoliandcaaGreatDoorKqg
set_option maxRecDepth 100000
set_option maxHeartbeats 8000000
open Go.Lib (hid)
namespace Go.Proofs.YtbbbocoliandcaaGreatDoor
namespace Sp
open Go.RowKit Bs Dv Gr
open Su (Sup SupOk GeoOk supE T4)
theorem AcSeg.form{w:World}{a:Option Addr}{n c:Nat}{l:List AcT}(h:AcSeg w a n c l)(hn:n≠0):∃B O,a=some ⟨B,O,none⟩∧∀k,k<n→w.cell? ⟨B,O+k*5,none⟩=some (.int .i64 (l.getD k default).kind)∧w.cell? ⟨B,O+k*5+1,none⟩=some (.int .u8 (l.getD k default).tag)∧w.cell? ⟨B,O+k*5+2,none⟩=some (.int .i64 (l.getD k default).kids)∧w.cell? ⟨B,O+k*5+3,none⟩=some (.int .i64 (l.getD k default).n)∧w.cell? ⟨B,O+k*5+4,none⟩=some (.string (strOfNums (l.getD k default).data)):=by
 cases a with
 |none=>have:=(h.nil_ rfl).1;omega
 |some ad=>
  have h0:=Qes (h.at_ ad rfl 0 (by omega) 0 _ rfl);obtain⟨B,O,sp⟩:=ad;have:sp=none:=h0;subst this;refine⟨B,O,rfl,fun k hk=>⟨?_,?_,?_,?_,?_⟩⟩
  ·have h4:=h.at_ _ rfl k hk 0 _ rfl;rw[Addr.add_lit]at h4;exact h4
  ·have h4:=h.at_ _ rfl k hk 1 _ rfl;rw[Addr.add_lit]at h4;exact h4
  ·have h4:=h.at_ _ rfl k hk 2 _ rfl;rw[Addr.add_lit]at h4;exact h4
  ·have h4:=h.at_ _ rfl k hk 3 _ rfl;rw[Addr.add_lit]at h4;exact h4
  ·have h4:=h.at_ _ rfl k hk 4 _ rfl;rw[Addr.add_lit]at h4;exact h4
theorem Qfx(w0 w:World)(size n:Nat)(hw:w0.grownBy w none)(hg:GeoOk size n)(hE:supE (firstS size n)=0)(hT4:T4 w0) :
  Calls Tryz.prog 35 #[.agg #[.int .i64 (size:Int),.int .i64 (n:Int)]] w fun e w'=>∃rg sg g,e=.returned (.pointer (some ⟨rg,0,none⟩))∧Rs w0 w' rg sg g (fun _=>False) (firstR' size n)∧w.grownBy w' none:=by
 refine(Qh0 w0 w size n hw hg hE hT4).mono ?_;rintro e w' ⟨v,e1,hr,hgr,-⟩;exact⟨v.rg,v.x.sg,v.x.g,e1,Rs.of hr,hgr⟩
theorem Rs.sh{w0 w:World}{rg sg g:Nat}{A:Nat→Prop}{r:Rn}(h:Rs w0 w rg sg g A r):Sh w0 w sg g (fun k=>A k∨k=rg) r.s∧w.cell? ⟨rg,1,none⟩=some (.pointer (some ⟨sg,0,none⟩)):=by
 obtain⟨v,rfl,rfl,rfl,h,d⟩:=h;refine⟨⟨v.x,rfl,rfl,h.sp,fun k hk=>?_⟩,h.box.cells.2.1⟩;rcases hk with q|rfl
 ·exact⟨(d k q).1,fun z=>(d k q).2 (.inl z)⟩
 ·exact⟨h.lt (.inr (.inl rfl)),h.rgn⟩
theorem Qjo(s:SpS):(frees s).length≤s.dv.blocks:=by
 unfold frees;refine Nat.le_trans (List.length_filter_le _ _) ?_;rw[List.length_range];exact Nat.le_refl _
theorem DoR.dims{a:AcT}{r r':Rn}{n e:Int}{T:Nat}(d:DoR a r n e r')(h:RnOk r T)(hT:T≤1000):r'.s.dv.size=r.s.dv.size∧r'.s.dv.blocks=r.s.dv.blocks:=by
 cases d with
 |Qaz=>exact⟨rfl,rfl⟩
 |get=>exact⟨rfl,rfl⟩
 |idle=>exact⟨rfl,rfl⟩
 |Qw n l hk he hf hl=>
  have hn:=(h.sp.free (n:=n) (by rw[hf];exact List.mem_cons_self ..)).1;have hpf:(Fr.putF r.s.dv.size ((actPg a r.own).tag,r.s.sup.gen+1,dataP (actPg a r.own))).2=0:=by
   unfold putErr at he;by_cases q:checkE r.s (actPg a r.own)≠0
   ·rw[if_pos q]at he;exact absurd he q
   ·rw[if_neg q]at he;by_cases q2:(Fr.putF r.s.dv.size ((actPg a r.own).tag,r.s.sup.gen+1,dataP (actPg a r.own))).2≠0
    ·rw[if_pos q2]at he;exact absurd he q2
    ·exact Decidable.not_not.1 q2
  have h3:=(QeM hpf).2;obtain⟨a1,a2,-⟩:=h.sp.Qav (p:=actPg a r.own) hn h3;exact⟨a1,a2⟩
 |share=>exact⟨rfl,rfl⟩
 |drop=>exact⟨rfl,rfl⟩
 |commit hk=>
  have hr:((actRoot a r.own:Nat):Int)=0∨(0≤((actRoot a r.own:Nat):Int)∧((actRoot a r.own:Nat):Int).toNat∈r.own):=by
   unfold actRoot;by_cases q:r.own≠[]∧0≤a.n
   ·rw[if_pos q];exact .inr ⟨by omega,by rw[Int.toNat_natCast];exact QaS (a:=a) q.1⟩
   ·rw[if_neg q];exact .inl rfl
  obtain⟨-,-,-,hd⟩:=h.sp.Qas hT hr;refine⟨?_,?_⟩
  ·show(commitP r.s _).dv.size=_
   rw[hd]
  ·show(commitP r.s _).dv.blocks=_
   rw[hd]
 |abort=>exact⟨rfl,rfl⟩
 |mark=>exact⟨rfl,rfl⟩
 |back=>exact⟨rfl,rfl⟩
 |done=>exact⟨rfl,rfl⟩
theorem Qk8(W:World)(b:Int):Reg (W.alloc (.cells #[.int .u8 b] 5)) W.heap.size 0 [b]:=fun j x hx=>by
 match j,hx with
 |0,hx=>
  have hx:some b=some x:=hx;cases hx
  exact⟨Su.Qae W _ _,by unfold World.frozen?;rw[heap_alloc_new];simp⟩
 |j+1,hx=>cases hx
theorem QeK{oa:Option Addr}{L oc k:Nat}(h:(Value.slice oa L oc).ownBlock=some k):∃ad:Addr,oa=some ad∧k=ad.block:=by
 cases oa with
 |none=>simp[Value.ownBlock]at h
 |some ad=>
  simp[Value.ownBlock]at h;exact⟨ad,rfl,h.symm⟩
theorem QjN{w w':World}{base e size n:Nat}{v:Value}{xs:List Value}{A:Nat→Prop}(h:w.ownsRow base e size v n xs)(k:Stay w w' A)(hv:∀i,v.ownBlock=some i→A i):w'.ownsRow base e size v n xs:=by
 refine⟨h.1,?_⟩;rcases h.2 with h2|⟨g,cap,cur,e1,h3,h4,h5⟩
 ·exact .inl h2
 ·refine .inr ⟨g,cap,cur,e1,h3,?_,h5⟩;rw[k.block (hv g (by rw[e1];rfl)) (Array.getElem?_eq_some_iff.1 h4).1];exact h4
theorem Qen{w:World}{base e L oc n:Nat}{oa:Option Addr}{xs:List Value}(h:w.ownsRow base e 1 (.slice oa L oc) n xs):∀ad,oa=some ad→base≤ad.block∧ad.block<w.heap.size:=by
 intro ad had;subst had;have h1:=h.lt ad.block rfl;exact h1
theorem Sh.beside{w0 w w':World}{sg g:Nat}{A B S:Nat→Prop}{s:SpS}(h:Sh w0 w sg g A s)(t:Turn w w' S)(hS:∀k,S k→A k)(h0:∀k,S k→w0.heap.size≤k)(hB:∀i,B i→A i∨(w.heap.size≤i∧i<w'.heap.size)):Sh w0 w' sg g B s:=by
 obtain⟨x,a,b,h,d⟩:=h;refine⟨x,a,b,h.turn t (fun k hk e=>(d k (hS k e)).2 hk) (QV h.gr t h0),fun i hi=>?_⟩;rcases hB i hi with q|q
 ·exact⟨Nat.lt_of_lt_of_le (d i q).1 t.size,(d i q).2⟩
 ·exact⟨q.2,fun e=>by have:=h.lt e;omega⟩
theorem Qg9(W:World)(base L oc:Nat)(oa:Option Addr)(l:List Nat)(m:Nat)(hown:W.ownsRow base 35 1 (.slice oa L oc) L ((ints l).map (Value.int .u32)))(hL:L≤100000)(hb:base≤W.heap.size) :
  ∃g3 c3 w3,(Builtin.append_ #[38,38] 38 #[.slice oa L oc,.slice (some ⟨W.heap.size,0,none⟩) 1 1]).run Tryz.prog (W.alloc (.cells #[.int .u32 (m:Int)] 35))=.ok (.slice (some ⟨g3,0,none⟩) (L+1) c3) w3∧w3.ownsRow base 35 1 (.slice (some ⟨g3,0,none⟩) (L+1) c3) (L+1) ((ints (l++[m])).map (Value.int .u32)) ∧
   Turn W w3 (fun k=>∃ad:Addr,oa=some ad∧k=ad.block)∧((∃ad:Addr,oa=some ad∧g3=ad.block)∨W.heap.size≤g3)∧g3<w3.heap.size:=by
 obtain⟨i0,hi,hz0,hz1,hz2⟩:=info_parts Ws.Qbc;have hs:=lit32 W m;have hb2:base≤(W.alloc (.cells #[.int .u32 (m:Int)] 35)).heap.size:=by rw[World.size_alloc];omega
 obtain⟨v',w',h1,h2,h3,-,h5⟩:=run_append_own_at (P:=Tryz.prog) (W.alloc (.cells #[.int .u32 (m:Int)] 35)) base 38 38 35 i0 (.int .u32 0) 1 4 Tryz.underlying38 hi hz0 hz1 hz2 rfl (by decide) (.slice oa L oc) L _ (hown.alloc _) ⟨W.heap.size,0,none⟩ 1 1 [.int .u32 (m:Int)] rfl (hs.at_ _ rfl) (ints_oneCell _ [(m:Int)]) (by unfold maxLen;omega) (by omega) hb2;obtain⟨g3,c3,rfl⟩:=Su.QX h2 (by omega);have ht:Turn W w' (fun k=>∃ad:Addr,oa=some ad∧k=ad.block):=(Turn.alloc W (.cells #[.int .u32 (m:Int)] 35) _).trans (Turn.Qm h3 (fun k e _=>QeK e)) (fun _ _ e=>e);refine⟨g3,c3,w',h1,?_,ht,?_,(h2.lt g3 rfl).2⟩
 ·unfold ints;rw[List.map_append,List.map_append];exact h2
 ·rcases h5 with e|e
  ·exact .inl (QeK e.symm)
  ·refine .inr ?_;have e2:some g3=some (W.alloc (.cells #[.int .u32 (m:Int)] 35)).heap.size:=e;rw[World.size_alloc]at e2
   injection e2 with e2
   omega
def PutE(w0 w:World)(sg g:Nat)(A:Nat→Prop)(s:SpS)(f0:Nat)(own0 hown mown:List Nat)(T:Nat)(b:Int)(l:List Nat)(e:Ending)(w':World):Prop:=
 ∃(v1 v2:Int) (s':SpS),e=.returned (.tuple #[.int .u32 v1,.int .i64 v2])∧Sh w0 w' sg g A s'∧Stay w w' A∧((v2=9∧s'=s)∨(v2=0∧∃m:Nat,v1=m∧PutsI f0 s' own0 hown mown (T+1) b (l++[m])))
theorem put_e{w0 w:World}{sg g:Nat}{A:Nat→Prop}{s:SpS}{f0:Nat}{own0 hown mown:List Nat}{T:Nat}{b:Int}{l:List Nat}(h:Sh w0 w sg g A s)(hp:PutsI f0 s own0 hown mown T b l)(hb:0≤b∧b<256)(hT:T≤1000) :
  Calls Tryz.prog 16 #[.pointer (some ⟨sg,0,none⟩),.agg #[.int .u8 (3+b % 200),.slice none 0 0,.string (strOfNums [b])]] w (PutE w0 w sg g A s f0 own0 hown mown T b l):=by
 have hE:=hp.err hb;by_cases hf:(frees s).length≤s.sup.pages.length
 ·rw[if_pos hf]at hE;refine(Qar h hp.sp hT (onePg b) none 0 (QcY hb).1 (Q9 w) (by show 1≤_;omega) hE (by decide)).mono ?_;rintro e w' ⟨e1,e2,e3⟩;exact⟨0,9,s,e1,e2,e3,.inl ⟨rfl,rfl⟩⟩
 ·rw[if_neg hf]at hE;obtain⟨m,fr,hfr⟩:∃m fr,frees s=m :: fr:=by
   cases q:frees s with
   |nil=>rw[q]at hf;exact absurd (Nat.zero_le _) hf
   |cons m fr=>exact⟨m,fr,rfl⟩
  have hfl:s.sup.pages.length≤fr.length:=by rw[hfr,List.length_cons]at hf;omega
  refine(Qbs h hp.sp hT (onePg b) none 0 (QcY hb).1 (Q9 w) (by show 1≤_;omega) hE hfr).mono ?_;rintro e w' ⟨e1,e2,e3⟩;exact⟨m,0,_,e1,e2,e3,.inr ⟨rfl,m,rfl,hp.put hb hT hfr hfl⟩⟩
end Sp
namespace Sp
open Go.RowKit Bs Dv Gr
open Su (Sup SupOk GeoOk supE T4)
open Dr
def SK34:List Nat:=[126,127,128,129,130,131,132,133,134,135,136,137,138,139,140,141,142,143,144,145,146,147]
theorem Qu:SK34.Nodup:=by decide +kernel
def VK34(gp rg sg gb ob L oc j k:Nat)(b:Int)(BS2:ByteArray)(g:Nat):List Value:=[.int .i64 0,.bool false,.bool false,.pointer (some ⟨gp,2,none⟩),.string BS2,.int .u8 b,.slice (some ⟨g,0,none⟩) 1 1,.string BS2,.bool false,.bool false,.bool false,.pointer (some ⟨rg,0,none⟩),.pointer (some ⟨rg,0,none⟩),.pointer (some ⟨rg,1,none⟩),.pointer (some ⟨sg,0,none⟩),.slice (some ⟨gb,ob,none⟩) L oc,.int .i64 (j:Int),.pointer (some ⟨gb,ob+j,none⟩),.int .u32 (k:Int),.int .i64 1,.bool false,.bool false]
theorem Qkb{gp rg sg gb ob L oc j k:Nat}{b:Int}{BS2:ByteArray}(g9 j9:Nat)(hj:j9≠6):(VK34 gp rg sg gb ob L oc j k b BS2 g9).getD j9 undef=(VK34 gp rg sg gb ob L oc j k b BS2 0).getD j9 undef:=by
 match j9,hj with
 |0,_=>rfl
 |1,_=>rfl
 |2,_=>rfl
 |3,_=>rfl
 |4,_=>rfl
 |5,_=>rfl
 |7,_=>rfl
 |8,_=>rfl
 |9,_=>rfl
 |10,_=>rfl
 |11,_=>rfl
 |12,_=>rfl
 |13,_=>rfl
 |14,_=>rfl
 |15,_=>rfl
 |16,_=>rfl
 |17,_=>rfl
 |18,_=>rfl
 |19,_=>rfl
 |20,_=>rfl
 |21,_=>rfl
 |6,h=>exact absurd rfl h
 |j+22,_=>rfl
def laterPg:Pg:=⟨9,[],[108,97,116,101,114]⟩
theorem QfW:PgOk laterPg:=⟨by decide,(fun k hk=>by cases hk),by unfold IsB;decide⟩
theorem QiD{w0 w:World}{sg g:Nat}{A:Nat→Prop}{s:SpS}{own hown mown:List Nat}{T:Nat}{b:Int}{l:List Nat}(h:Sh w0 w sg g A s)(hk:SpOk s own hown mown T)(hT:T≤1000)(hh:HeldI s b l) :
  Calls Tryz.prog 16 #[.pointer (some ⟨sg,0,none⟩),.agg #[.int .u8 9,.slice none 0 0,.string ⟨#[108,97,116,101,114]⟩]] w fun e w'=>∃(v1 v2:Int) (s':SpS),e=.returned (.tuple #[.int .u32 v1,.int .i64 v2])∧Sh w0 w' sg g A s'∧Stay w w' A∧HeldI s' b l∧s'.dv.blocks=s.dv.blocks∧s'.sup=s.sup:=by
 have hlen:(dataP laterPg).length+16≤s.dv.size:=by
  have:=hk.dok.lo;rw[QbO]
  show 2+4*0+5+16≤_
  omega
 have hE:=hk.Qa1 (p:=laterPg) (by decide) (fun k hk=>by cases hk) (by decide) hlen;by_cases hf:(frees s).length≤s.sup.pages.length
 ·rw[if_pos hf]at hE;refine(Qar h hk hT laterPg none 0 QfW (Q9 w) (by decide) hE (by decide)).mono ?_;rintro e w' ⟨e1,e2,e3⟩;exact⟨0,9,s,e1,e2,e3,hh,rfl,rfl⟩
 ·rw[if_neg hf]at hE;obtain⟨n,r,hfr⟩:∃n r,frees s=n :: r:=by
   cases q:frees s with
   |nil=>rw[q]at hf;exact absurd (Nat.zero_le _) hf
   |cons n r=>exact⟨n,r,rfl⟩
  refine(Qbs h hk hT laterPg none 0 QfW (Q9 w) (by decide) hE hfr).mono ?_;rintro e w' ⟨e1,e2,e3⟩;have hn:=(hk.free (n:=n) (by rw[hfr];exact List.mem_cons_self ..)).1;exact⟨n,0,_,e1,e2,e3,hh.put hk hlen hfr,(hk.Qav (p:=laterPg) hn hlen).2.1,rfl⟩
theorem keeps_any (size blocks : Int) (a1 : Option Addr) (n c : Nat) (l : List AcT) (b : Int) (w : World) (hs : AcSeg w a1 n c l) (hi : ∀ x ∈ l, AcIn x) (hb : 0 ≤ b ∧ b < 256) (hT4 : T4 w) :
    Calls Tryz.prog 9 #[.agg #[.int .i64 size, .int .i64 blocks], .slice a1 n c, .int .u8 b] w fun e w' => e = .returned (.bool true) ∧ w.grownBy w' none := by
  have B0 := heap_alloc_new w (.cells #[.int .i64 size, .int .i64 blocks] 28)
  have G0 := Qb          w (.cells #[.int .i64 size, .int .i64 blocks] 28)
  obtain ⟨W0, hW0⟩ : ∃ X, w.alloc (.cells #[.int .i64 size, .int .i64 blocks] 28) = X := ⟨_, rfl⟩
  rw [hW0] at B0 G0
  have HB0 := Lib.hid B0
  have HG0 := Lib.hid G0
  have HW0 := Lib.hid hW0
  have HT40 := Lib.hid (hT4.grown G0)
  have HLV := Lib.hid (Qcv         W0 HT40.out)
  have HLG := Lib.hid (fun W => Cn.Qdj          size blocks W)
  have HLI := Lib.hid (fun W (k : W0.grownBy W none) => Qdi       a1 n c l W (hs.old (Qa         G0 k)) hi)
  have HSEG := Lib.hid (fun W (k : W0.grownBy W none) => hs.old (Qa         G0 k))
  have HIN := Lib.hid hi
  have HLN := Lib.hid hs.len
  have HBB := Lib.hid hb
  clear B0 G0 hW0 hs hi hb hT4
  go_enter Tryz.func9, Tryz.ntmps9
  go_upto_region 1 with fail
  rw [HW0.out]
  go_wp2_with fail
  refine HLV.out.mono ?_
  rintro e w1 ⟨rfl, hg⟩
  have HG1 := Lib.hid hg
  have HB1 := Lib.hid (Qk        HB0.out hg)
  have c0 : w1.cell? ⟨w.heap.size, 0, none⟩ = some (.int .i64 size) := by rw [cell_of_row _ _ _ _ _ _ HB1.out]; rfl
  have c1 : w1.cell? ⟨w.heap.size, 1, none⟩ = some (.int .i64 blocks) := by rw [cell_of_row _ _ _ _ _ _ HB1.out]; rfl
  clear hg HLV
  dsimp only
  obtain ⟨lg, hlg⟩ : ∃ b, Cn.LightS size blocks = b := ⟨_, rfl⟩
  rw [hlg] at HLG
  have HLGE := Lib.hid hlg
  clear hlg
  go_wp2_with fail
  refine (HLG.out _).mono ?_
  rintro e w2 ⟨rfl, hg⟩
  have HG2 := Lib.hid (Qa         HG1.out hg)
  have HB2 := Lib.hid (Qk        HB1.out hg)
  have HLI2 := Lib.hid (HLI.out w2 HG2.out)
  clear hg c0 c1 HLG HLI
  cases lg with
  | false =>
    have HE := Lib.hid (Qa         HG0.out HG2.out)
    go_wp2
    go_ret
    exact ⟨rfl, HE.out⟩
  | true =>
  obtain ⟨lb, hlb⟩ : ∃ b, lightB l = b := ⟨_, rfl⟩
  rw [hlb] at HLI2
  have HLB := Lib.hid hlb
  clear hlb
  dsimp only
  go_wp2_with fail
  refine HLI2.out.mono ?_
  rintro e w3 ⟨rfl, rfl⟩
  cases lb with
  | false =>
    have HE := Lib.hid (Qa         HG0.out HG2.out)
    go_wp2
    go_ret
    exact ⟨rfl, HE.out⟩
  | true =>
  have c0 : w2.cell? ⟨w.heap.size, 0, none⟩ = some (.int .i64 size) := by rw [cell_of_row _ _ _ _ _ _ HB2.out]; rfl
  have c1 : w2.cell? ⟨w.heap.size, 1, none⟩ = some (.int .i64 blocks) := by rw [cell_of_row _ _ _ _ _ _ HB2.out]; rfl
  by_cases hok : GeoOk size blocks
  case neg =>
    have HBN := Lib.hid (Qfw      size blocks w2 hok)
    clear hok
    go_wp2_with fail
    refine HBN.out.mono ?_
    rintro e w3 ⟨rfl, hg⟩
    have HE := Lib.hid (Qa         HG0.out (Qa         HG2.out hg))
    clear hg c0 c1
    dsimp only
    go_wp2
    go_ret
    exact ⟨rfl, HE.out⟩
  case pos =>
  obtain ⟨K, rfl⟩ : ∃ K : Nat, blocks = K := Int.eq_ofNat_of_zero_le (by unfold GeoOk at hok; omega)
  obtain ⟨Z, rfl⟩ : ∃ Z : Nat, size = Z := Int.eq_ofNat_of_zero_le (by unfold GeoOk at hok; omega)
  have hsk := Cn.Qe9       HLGE.out hok
  have HSK : Hid (Z ≤ 512 ∧ K ≤ 40) := Lib.hid (by omega)
  have hN60 : n ≤ 60 := by
    have h1 := HLB.out
    unfold lightB at h1
    rw [Bool.and_eq_true] at h1
    have h2 := of_decide_eq_true h1.2
    have h3 := HLN.out
    omega
  have HOKA : Hid (∀ i, i < n → AcOk (l.getD i default)) := Lib.hid (fun i hi2 => by
    have h1 := HLB.out
    unfold lightB at h1
    rw [Bool.and_eq_true] at h1
    have h2 := of_decide_eq_true h1.1 i (by rw [HLN.out]; exact hi2)
    refine (HIN.out _ ?_).ok h2
    have hl2 : i < l.length := by rw [HLN.out]; exact hi2
    rw [List.getD_eq_getElem?_getD, List.getElem?_eq_getElem hl2]
    exact List.getElem_mem hl2)
  have HGE := Lib.hid hok
  have HBG := Lib.hid (Qfx      W0 w2 Z K HG2.out hok (Qat         hok hsk.2) HT40.out)
  have HRK : Hid (RnOk (firstR' Z K) 0) := Lib.hid (QeZ       hok (Qat         hok hsk.2))
  have HDM : Hid ((firstR' Z K).s.dv.size = Z ∧ (firstR' Z K).s.dv.blocks = K) := Lib.hid (by obtain ⟨g1, g2, -, -⟩ := QbP       hok (Qat         hok hsk.2); exact ⟨g1, g2⟩)
  clear hok hsk
  go_wp2_with fail
  refine HBG.out.mono ?_
  rintro e w3 ⟨rg, sg0, dg, rfl, hr, -⟩
  have HR3 := Lib.hid hr
  clear hr c0 c1 HBG HLI2
  dsimp only
  go_wp2
  go_loopw [8] (fun si wr => ∃ (i sg : Nat) (r : Rn), i ≤ n ∧ si = .int .i64 (i : Int) ∧ Hid (Rs W0 wr rg sg dg (fun _ => False) r) ∧ Hid (RnOk r i) ∧ Hid (r.s.dv.size = Z ∧ r.s.dv.blocks = K)) (fun si _ => n - (intOf si).toNat)
  case atStart => exact ⟨0, sg0, _, Nat.zero_le _, rfl, HR3, HRK, HDM⟩
  case round =>
  clear HR3 HRK HDM
  obtain ⟨i, sg, r, hin, rfl, HR, HK, HD⟩ := hrel
  by_cases hlt : i < n
  case pos =>
    have hq : decide (i < n) = true := decide_eq_true hlt
    obtain ⟨B, O, rfl, hat⟩ := (HSEG.out wr HR.out.gr).form (by omega)
    obtain ⟨b0, b1, b2, b3, b4⟩ := hat i hlt
    have p0 : (0 : Int) ≤ (i : Int) := by omega
    have p1 : (i : Int) < (n : Int) := by omega
    have HDO := Lib.hid (rs_do HR.out HK.out (by omega) _ (HOKA.out i hlt) HT40.out)
    obtain ⟨x, hx⟩ : ∃ x, l.getD i default = x := ⟨_, rfl⟩
    rw [hx] at b0 b1 b2 b3 b4 HDO
    have HDO2 : Hid (Calls Tryz.prog 39 #[.pointer (some ⟨rg, 0, none⟩), .agg #[.int .i64 x.kind, .int .u8 x.tag, .int .i64 x.kids, .int .i64 x.n, .string (strOfNums x.data)]] wr (DoS W0 wr rg dg (fun _ => False) r x i)) := HDO
    obtain ⟨k0, k1, k2, k3, k4, e0, e1, e2, e3, e4⟩ : ∃ k0 k1 k2 k3 k4, x.kind = k0 ∧ x.tag = k1 ∧ x.kids = k2 ∧ x.n = k3 ∧ strOfNums x.data = k4 := ⟨_, _, _, _, _, rfl, rfl, rfl, rfl, rfl⟩
    rw [e0, e1, e2, e3, e4] at HDO2
    rw [e0] at b0
    rw [e1] at b1
    rw [e2] at b2
    rw [e3] at b3
    rw [e4] at b4
    clear e0 e1 e2 e3 e4 hx hat HDO
    go_wp2_with fail
    refine HDO2.out.mono ?_
    rintro e w4 ⟨n4, er, r4, sg4, rfl, hd4, hk4, hr4, -⟩
    have HD4 : Hid (r4.s.dv.size = Z ∧ r4.s.dv.blocks = K) := Lib.hid (by have h1 := hd4.dims HK.out (by omega); have h2 := HD.out; omega)
    have HR4 := Lib.hid hr4
    have HK4 := Lib.hid hk4
    clear hr4 hk4 hd4 b0 b1 b2 b3 b4 HR HK HD HDO2
    dsimp only
    go_wp2
    go_roundw
    case rel => exact ⟨i + 1, sg4, r4, by omega, by go_num, HR4, HK4, HD4⟩
    case measure => simp [intOf]; omega
  case neg =>
  have hq : decide (i < n) = false := decide_eq_false hlt
  obtain rfl : i = n := by omega
  clear hlt hin
  obtain ⟨hsh, hrc⟩ := HR.out.sh
  have HPI := Lib.hid (PutsI.start HK.out.sp b)
  have HF0 : Hid ((frees r.s).length ≤ 40) := Lib.hid (by have h1 := Qjo      r.s; have h2 := HD.out; have h3 := HSK.out; omega)
  obtain ⟨f0, hf0⟩ : ∃ f, (frees r.s).length = f := ⟨_, rfl⟩
  rw [hf0] at HPI HF0
  have HSH : Hid (Sh W0 wr sg dg (fun k => k = rg ∨ ∃ ad : Addr, (none : Option Addr) = some ad ∧ k = ad.block) r.s) := Lib.hid (hsh.less (fun k e => e.elim .inr (fun ⟨ad, q, _⟩ => by cases q)))
  have HRC := Lib.hid hrc
  have HOW : Hid (wr.ownsRow wr.heap.size 35 1 (.slice none 0 0) 0 ((ints []).map (Value.int .u32))) := Lib.hid (World.ownsRow_nil _ _ _ _)
  obtain ⟨own0, hown0, mown0, e1, e2, e3⟩ : ∃ o h m, r.own = o ∧ r.hown = h ∧ r.mown = m := ⟨_, _, _, rfl, rfl, rfl⟩
  rw [e1, e2, e3] at HPI
  obtain ⟨s0, e4⟩ : ∃ s, r.s = s := ⟨_, rfl⟩
  rw [e4] at HPI HSH
  have HV0Z : Hid (W0.heap.size ≤ wr.heap.size) := Lib.hid HSH.out.gr.size
  have HRGV : Hid (rg < wr.heap.size) := Lib.hid (HSH.out.lt (.inl rfl))
  obtain ⟨V0, hV0⟩ : ∃ V, wr = V := ⟨_, rfl⟩
  rw [hV0] at HSH HRC HOW HV0Z HRGV ⊢
  clear hsh hrc hf0 e1 e2 e3 e4 hV0 HR HK HD HSEG HIN HLN HLB HLGE HOKA HG1 HB1 HG2 HB2 HB0 HW0 HGE
  go_wp2
  go_loopw [9, 10] (fun so si wx => ∃ (L oc : Nat) (oa : Option Addr) (s : SpS) (l2 : List Nat), so = .slice oa L oc ∧ si = .int .i64 (L : Int) ∧ Hid (l2.length = L) ∧ Hid (Sh W0 wx sg dg (fun k => k = rg ∨ ∃ ad : Addr, oa = some ad ∧ k = ad.block) s) ∧ Hid (PutsI f0 s own0 hown0 mown0 (i + L) b l2) ∧ Hid (wx.cell? ⟨rg, 1, none⟩ = some (.pointer (some ⟨sg, 0, none⟩))) ∧ Hid (wx.ownsRow V0.heap.size 35 1 (.slice oa L oc) L ((ints l2).map (Value.int .u32))) ∧ Hid (V0.heap.size ≤ wx.heap.size)) (fun _ si _ => 50 - (intOf si).toNat)
  case atStart => exact ⟨0, 0, none, s0, [], rfl, rfl, Lib.hid rfl, HSH, HPI, HRC, HOW, Lib.hid (Nat.le_refl _)⟩
  case round =>
  clear HSH HPI HRC HOW
  obtain ⟨L, oc, oa, s, l2, rfl, rfl, HLL, HS, HP, HRC, HOW, HVZ⟩ := hrel
  have hL40 : L ≤ 40 := by have h1 := HP.out.few; have h2 := HF0.out; have h3 := HLL.out; omega
  have hq50 : decide ((L : Int) < 50) = true := decide_eq_true (by omega)
  have d1 := HRC.out
  have hb1 := HBB.out
  have hwt : IntKind.u8.wrap (3 + b.tmod 200) = 3 + b % 200 := by
    rw [Int.tmod_eq_emod_of_nonneg (by omega)]
    unfold IntKind.wrap
    simp [IntKind.bits, IntKind.signed]
    omega
  have hcv : (convert 101 9 (.slice (some ⟨wr.heap.size, 0, none⟩) 1 1)).run Tryz.prog (wr.alloc (.cells #[.int .u8 b] 5)).drew = .ok (.string (strOfNums [b])) (wr.alloc (.cells #[.int .u8 b] 5)).drew := Qjb      wr.drew b
  have hga := Qb          wr (.cells #[.int .u8 b] 5)
  have d2 := (Qd         hga).cell d1 id
  have HGA := Lib.hid hga
  have HPUT : Hid (∀ W, wr.grownBy W none → Calls Tryz.prog 16 #[.pointer (some ⟨sg, 0, none⟩), .agg #[.int .u8 (3 + b % 200), .slice none 0 0, .string (strOfNums [b])]] W (PutE W0 W sg dg (fun k => k = rg ∨ ∃ ad : Addr, oa = some ad ∧ k = ad.block) s f0 own0 hown0 mown0 (i + L) b l2)) := Lib.hid (fun W k => put_e (HS.out.go k) HP.out hb1 (by omega))
  obtain ⟨BS, hBS⟩ : ∃ B, strOfNums [b] = B := ⟨_, rfl⟩
  rw [hBS] at HPUT hcv
  obtain ⟨tg, htg⟩ : ∃ t, 3 + b % 200 = t := ⟨_, rfl⟩
  rw [htg] at HPUT hwt
  clear hBS htg hb1 hga
  go_upto_region 16 with fail
  go_cut [11, 12] from 47 to 61 (fun nv ev wx => ∃ (v1 v2 : Int) (s' : SpS), nv = .int .u32 v1 ∧ ev = .int .i64 v2 ∧ Hid (Sh W0 wx sg dg (fun k => k = rg ∨ ∃ ad : Addr, oa = some ad ∧ k = ad.block) s') ∧ Hid (Stay wr wx (fun k => k = rg ∨ ∃ ad : Addr, oa = some ad ∧ k = ad.block)) ∧ Hid ((v2 = 9 ∧ s' = s) ∨ (v2 = 0 ∧ ∃ m : Nat, v1 = m ∧ PutsI f0 s' own0 hown0 mown0 (i + L + 1) b (l2 ++ [m]))))
  case first =>
    go_region_with (first
        | (go_at_call 16
           (with_reducible refine (HPUT.out _ ?_).mono ?_)
           · exact Qa         HGA.out (Qg         _)
           rintro e w4 ⟨v1, v2, s', rfl, hs4, ht4, hor⟩
           have HS4 := Lib.hid hs4
           have HT4' := Lib.hid ((Stay.Qm       (Qa         HGA.out (Qg         _))).trans ht4)
           have HOR := Lib.hid hor
           clear hs4 ht4 hor)
        | fail)
    all_goals
      go_wp2
      go_meet
      exact ⟨v1, v2, s', rfl, rfl, HS4, HT4', HOR⟩
  case rest =>
  obtain ⟨v1, v2, s', rfl, rfl, HS4, HT4, HOR⟩ := hcut
  have HRC4 := Lib.hid (HT4.out.cell HRC.out (.inl rfl))
  have HOW4 := Lib.hid (QjN      HOW.out HT4.out (fun k hk => .inr (QeK     hk)))
  have HVZ4 : Hid (V0.heap.size ≤ wc.heap.size) := Lib.hid (Nat.le_trans HVZ.out HT4.out.size)
  clear HS HRC HOW HVZ d1 d2 hcv hwt HPUT HGA
  rcases HOR.out with ⟨rfl, rfl⟩ | ⟨rfl, m, rfl, hpi⟩
  case inr =>
    clear HOR HP
    have HP4 := Lib.hid hpi
    clear hpi
    obtain ⟨g3, c3, w5, hr5, how5, ht5, hor5, hlt5⟩ := Qg9        wc V0.heap.size L oc oa l2 m HOW4.out (by omega) HVZ4.out
    have HOW5 := Lib.hid how5
    have HR5 := Lib.hid hr5
    have HS5 : Hid (Sh W0 w5 sg dg (fun k => k = rg ∨ ∃ ad : Addr, (some (⟨g3, 0, none⟩ : Addr)) = some ad ∧ k = ad.block) s') := Lib.hid (HS4.out.beside ht5 (fun k e => .inr e) (fun k e => by
        obtain ⟨ad, e1, rfl⟩ := e
        have h1 := (Qen        HOW4.out ad e1).1
        have h2 := HV0Z.out
        omega) (fun k e => by
        rcases e with e | ⟨ad, e, rfl⟩
        · exact .inl (.inl e)
        · cases e
          rcases hor5 with ⟨ad, z, y⟩ | z
          · exact .inl (.inr ⟨ad, z, y⟩)
          · exact .inr ⟨z, hlt5⟩))
    have HRC5 : Hid (w5.cell? ⟨rg, 1, none⟩ = some (.pointer (some ⟨sg, 0, none⟩))) := Lib.hid (ht5.cell HRC4.out (fun e => by
        obtain ⟨ad, e1, e2⟩ := e
        have h1 := (Qen        HOW4.out ad e1).1
        have h2 := HRGV.out
        have e3 : rg = ad.block := e2
        omega))
    have HVZ5 : Hid (V0.heap.size ≤ w5.heap.size) := Lib.hid (Nat.le_trans HVZ4.out ht5.size)
    have HLL5 : Hid ((l2 ++ [m]).length = L + 1) := Lib.hid (by rw [List.length_append, HLL.out]; rfl)
    clear hr5 how5 ht5 hor5 hlt5
    go_upto_region 20 with fail
    go_wp2_with (at_builtin; refine Lib.wpList_append_run _ rfl (.tmp 66) (.tmp 68) _ _ rfl _ _ rfl rfl _ _ HR5.out ?_)
    go_roundw
    case rel => exact ⟨L + 1, c3, some ⟨g3, 0, none⟩, s', l2 ++ [m], rfl, by go_num, HLL5, HS5, HP4, HRC5, HOW5, HVZ5⟩
    case measure => simp [intOf]; omega
  case inl =>
  clear HOR
  obtain ⟨hcs, hch⟩ := HP.out.commit (by omega)
  have HCO := Lib.hid hcs
  have HCH := Lib.hid hch
  have HCM : Hid (Calls Tryz.prog 27 #[.pointer (some ⟨sg, 0, none⟩), .int .u32 0] wc (ShX W0 wc sg dg (fun k => k = rg ∨ ∃ ad : Addr, oa = some ad ∧ k = ad.block) (.int .i64 0) (commitP s' 0))) := Lib.hid (Qff       HS4.out HP.out.sp (by omega) 0 (by decide) (.inl rfl) HT40.out)
  have HSEG4 : Hid (Ws.Seg wc oa L oc (ints l2)) := Lib.hid (Su.QbG      HOW4.out)
  have d4 := HRC4.out
  have hq45 : decide ((45 : Int) < (L : Int)) = false := decide_eq_false (by omega)
  clear hcs hch HP
  go_wp2_with fail
  refine HCM.out.mono ?_
  rintro e w6 ⟨rfl, hs6, ht6⟩
  have HS6 := Lib.hid hs6
  have HRC6 := Lib.hid (ht6.cell HRC4.out (.inl rfl))
  have HSEG6 := Lib.hid (ht6.seg HSEG4.out (fun ad had => .inr ⟨ad, had, rfl⟩))
  clear hs6 ht6 d4 HS4 HT4 HRC4 HOW4 HVZ4 HSEG4 HCM
  obtain ⟨s6, hs6⟩ : ∃ s, commitP s' 0 = s := ⟨_, rfl⟩
  rw [hs6] at HCO HCH HS6
  have HDR : Hid (SpOk s6 (l2.drop 0 ++ own0) (own0 ++ l2) [] (i + L + 1 + 0)) := Lib.hid (HCO.out.perm (fun k => by rw [List.drop_zero, List.count_append, List.count_append]; omega))
  clear hs6
  try dsimp only
  go_wp2
  go_loopw [13] (fun si wx => ∃ (j : Nat) (s : SpS), j ≤ L ∧ si = .int .i64 (j : Int) ∧ Hid (Sh W0 wx sg dg (fun k => k = rg ∨ ∃ ad : Addr, oa = some ad ∧ k = ad.block) s) ∧ Hid (SpOk s (l2.drop j ++ own0) (own0 ++ l2) [] (i + L + 1 + j)) ∧ Hid (HeldI s b l2) ∧ Hid (wx.cell? ⟨rg, 1, none⟩ = some (.pointer (some ⟨sg, 0, none⟩))) ∧ Hid (Ws.Seg wx oa L oc (ints l2))) (fun si _ => L - (intOf si).toNat)
  case atStart => exact ⟨0, s6, Nat.zero_le _, rfl, HS6, HDR, HCH, HRC6, HSEG6⟩
  case round =>
  clear HCO HCH HS6 HDR HRC6 HSEG6
  obtain ⟨j, s7, hjL, rfl, HS7, HO7, HH7, HRC7, HSEG7⟩ := hrel
  by_cases hlt : j < L
  case pos =>
    have hq : decide (j < L) = true := decide_eq_true hlt
    obtain ⟨gb, ob, rfl, hat⟩ := HSEG7.out.addr (by omega)
    have hk := hat j hlt
    have hj2 : j < l2.length := by rw [HLL.out]; exact hlt
    have e1 : (ints l2).getD j 0 = ((l2.getD j 0 : Nat) : Int) := by unfold ints; rw [List.getD_eq_getElem?_getD, List.getD_eq_getElem?_getD, List.getElem?_map, List.getElem?_eq_getElem hj2]; rfl
    rw [e1] at hk
    have hdr : l2.drop j = l2.getD j 0 :: l2.drop (j + 1) := by rw [List.drop_eq_getElem_cons hj2, List.getD_eq_getElem?_getD, List.getElem?_eq_getElem hj2]; rfl
    obtain ⟨k, hkk⟩ : ∃ k, l2.getD j 0 = k := ⟨_, rfl⟩
    rw [hkk] at hk hdr
    have HDP : Hid (∀ W, wr.grownBy W none → Calls Tryz.prog 19 #[.pointer (some ⟨sg, 0, none⟩), .int .u32 (k : Int)] W fun e w' => ∃ c, ShX W0 W sg dg (fun k => k = rg ∨ ∃ ad : Addr, (some (⟨gb, ob, none⟩ : Addr)) = some ad ∧ k = ad.block) (.int .i64 0) { s7 with now := c } e w' ∧ SpOk { s7 with now := c } (l2.drop (j + 1) ++ own0) (own0 ++ l2) [] (i + L + 1 + j + 1)) := Lib.hid (fun W hW => QjZ      (HS7.out.go hW) HO7.out k (l2.drop (j + 1) ++ own0) (fun m => by rw [hdr, List.cons_append]))
    have d7 := HRC7.out
    have p0 : (0 : Int) ≤ (j : Int) := by omega
    have p1 : (j : Int) < (L : Int) := by omega
    clear hat hj2 e1 hdr hkk
    go_upto_region 26 with fail
    go_region_held3 (fun w' => w'.cell? ⟨rg, 1, none⟩ = some (.pointer (some ⟨sg, 0, none⟩)) ∧ w'.cell? ⟨gb, ob + j, none⟩ = some (.int .u32 (k : Int))) (go_keep)
      (first
        | (go_at_call 19
           (with_reducible refine (HDP.out _ (Qg         wr)).mono ?_)
           rintro e w8 ⟨c8, ⟨rfl, hs8, ht8⟩, ho8⟩
           have HS8 := Lib.hid hs8
           have HO8 := Lib.hid ho8
           have HT8 := Lib.hid ((Stay.Qm       (Qg         wr)).trans ht8)
           have k1 := HT8.out.cell d7 (.inl rfl)
           have k2 := HT8.out.cell hk (.inr ⟨_, rfl, rfl⟩)
           clear hs8 ho8 ht8)
        | fail)
    have HRC8 := Lib.hid (HT8.out.cell HRC7.out (.inl rfl))
    have HSEG8 := Lib.hid (HT8.out.seg HSEG7.out (fun ad had => .inr ⟨ad, had, rfl⟩))
    have HH8 : Hid (HeldI { s7 with now := c8 } b l2) := Lib.hid HH7.out.now
    clear HT8 HDP hk d7 k1 k2
    go_wp2
    go_roundw
    case rel => exact ⟨j + 1, _, by omega, by go_num, HS8, HO8, HH8, HRC8, HSEG8⟩
    case measure => simp [intOf]; omega
  case neg =>
  have hq : decide (j < L) = false := decide_eq_false hlt
  obtain rfl : L = j := by omega
  have HPL := Lib.hid (QiD       HS7.out HO7.out (by omega) HH7.out)
  have d7 := HRC7.out
  go_wp2_with fail
  refine HPL.out.mono ?_
  rintro e w8 ⟨v1, v2, s8, rfl, hs8, ht8, hh8, -, hsu8⟩
  have HPG8 : Hid (s8.sup.pages.length ≤ 100000) := Lib.hid (by rw [hsu8]; have := HO7.out.QW       ; omega)
  have HAB := Lib.hid (Qgn      hs8)
  have HRC8 := Lib.hid (ht8.cell HRC7.out (.inl rfl))
  have HSEG8 := Lib.hid (ht8.seg HSEG7.out (fun ad had => .inr ⟨ad, had, rfl⟩))
  have HH8 := Lib.hid hh8
  have d8 := HRC8.out
  clear hs8 ht8 hh8 hsu8 d7 HPL HS7 HO7 HH7 HRC7 HSEG7
  try dsimp only
  go_wp2_with fail
  refine HAB.out.mono ?_
  rintro e w9 ⟨rfl, hs9, ht9⟩
  have HS9 := Lib.hid hs9
  have HRC9 := Lib.hid (ht9.cell HRC8.out (.inl rfl))
  have HSEG9 := Lib.hid (ht9.seg HSEG8.out (fun ad had => .inr ⟨ad, had, rfl⟩))
  clear hs9 ht9 d8 HAB HRC8 HSEG8 hlt hjL
  try dsimp only
  obtain ⟨V9, hV9⟩ : ∃ V, w9 = V := ⟨_, rfl⟩
  rw [hV9] at HS9 HRC9 HSEG9 ⊢
  clear hV9
  go_wp2
  go_loopw [14] (fun si wx => ∃ j : Nat, j ≤ L ∧ si = .int .i64 (j : Int) ∧ Hid (V9.grownBy wx none)) (fun si _ => L - (intOf si).toNat)
  case atStart => exact ⟨0, Nat.zero_le _, rfl, Lib.hid (Qy         _)⟩
  case round =>
  obtain ⟨j, hjL, rfl, HG9⟩ := hrel
  have hz9 := HG9.out.size
  by_cases hlt : j < L
  case pos =>
    have hq : decide (j < L) = true := decide_eq_true hlt
    obtain ⟨gb, ob, rfl, hat⟩ := (HSEG9.out.grown HG9.out).addr (by omega)
    have hk := hat j hlt
    have hj2 : j < l2.length := by rw [HLL.out]; exact hlt
    have e1 : (ints l2).getD j 0 = ((l2.getD j 0 : Nat) : Int) := by unfold ints; rw [List.getD_eq_getElem?_getD, List.getD_eq_getElem?_getD, List.getElem?_map, List.getElem?_eq_getElem hj2]; rfl
    rw [e1] at hk
    have hmem : l2.getD j 0 ∈ l2 := by rw [List.getD_eq_getElem?_getD, List.getElem?_eq_getElem hj2]; exact List.getElem_mem hj2
    obtain ⟨k, hkk⟩ : ∃ k, l2.getD j 0 = k := ⟨_, rfl⟩
    rw [hkk] at hk hmem
    obtain ⟨got1, got2, got3⟩ := HH8.out.got hmem
    have hk32 : k < 4294967296 := by have h1 := (HH8.out.at' k hmem).2.1; have h2 : s8.dv.blocks ≤ 4096 := by obtain ⟨x, -, -, hx, -⟩ := HS9.out; exact hx.dev.dev.ok.bhi
                                     omega
    obtain ⟨BS2, hBS2⟩ : ∃ B, strOfNums [b] = B := ⟨_, rfl⟩
    have HGT : Hid (∀ W, wr.grownBy W none → Calls Tryz.prog 25 #[.pointer (some ⟨sg, 0, none⟩), .int .u32 (k : Int)] W fun e w' => ∃ a c, e = .returned (.tuple #[.agg #[.int .u8 (3 + b % 200), .slice a 0 c, .string BS2], .int .i64 0]) ∧ W.grownBy w' none) := Lib.hid (fun W hW => by
      refine (Qer    (HS9.out.go (Qa         HG9.out hW)) HPG8.out k hk32).mono ?_
      rintro e w' ⟨hg, hx⟩
      rcases hx with ⟨z, -⟩ | ⟨p, a, c, -, hp, e2, -, -⟩
      · exact absurd got1 z
      · have hp2 : pageF s8.dv.blocks (s8.dv.last k) = some p := hp
        obtain rfl : p = onePg b := Option.some.inj (hp2.symm.trans got2)
        refine ⟨a, c, ?_, hg⟩
        rw [← hBS2]
        exact e2)
    have HCT : Hid (∀ W, wr.grownBy W none → Calls Tryz.prog 23 #[.pointer (some ⟨sg, 0, none⟩), .int .u32 (k : Int)] W fun e w' => e = .returned (.int .i64 1) ∧ W = w') := Lib.hid (fun W hW => by
      have h1 := Qbg      (HS9.out.go (Qa         HG9.out hW)) k hk32
      rw [show ({ s8 with now := s8.held, mark := none } : SpS).now.getD k 0 = 1 from got3] at h1
      exact h1)
    have d9 := (Qd         HG9.out).cell HRC9.out id
    have p0 : (0 : Int) ≤ (j : Int) := by omega
    have p1 : (j : Int) < (L : Int) := by omega
    obtain ⟨tg2, htg2⟩ : ∃ t, 3 + b % 200 = t := ⟨_, rfl⟩
    rw [htg2] at HGT
    have hgz := Qb          wr (.cells #[.int .u8 0, .slice none 0 0, .string ⟨#[]⟩] 40)
    have HGZ := Lib.hid (Qa         hgz (Qg         _))
    have HQZ := Lib.hid (heap_alloc_new wr (.cells #[.int .u8 0, .slice none 0 0, .string ⟨#[]⟩] 40))
    have z9 := (Qd         hgz).cell d9 id
    have zk := (Qd         hgz).cell hk id
    clear hgz got1 got2 got3 hmem e1 hj2 hat hkk htg2
    go_upto_region 33 with fail
    go_cut [15, 16] from 114 to 125 (fun pv ev wx => ∃ (gp : Nat) (a : Option Addr) (cc : Nat), pv = .pointer (some ⟨gp, 0, none⟩) ∧ ev = .int .i64 0 ∧ Hid (wx.heap[gp]? = some (.cells #[.int .u8 tg2, .slice a 0 cc, .string BS2] 40 (0, 0))) ∧ Hid (wr.grownBy wx none))
    case first =>
      go_region_with (first
        | (go_at_call 25
           (with_reducible refine (HGT.out _ (Qg         wr)).mono ?_)
           rintro e w4 ⟨a, cc, rfl, hg4⟩
           have HG4 := Lib.hid (Qa         (Qg         wr) hg4)
           have f4 : ∀ j, (w4.alloc (.cells #[.int .u8 0, .slice none 0 0, .string ⟨#[]⟩] 40)).frozen? ⟨w4.heap.size, j, none⟩ = false := fun j => by unfold World.frozen?; rw [heap_alloc_new]; simp
           have x4 := QaK      (heap_alloc_new w4 (.cells #[.int .u8 0, .slice none 0 0, .string ⟨#[]⟩] 40))
           obtain ⟨x0, x1, x2⟩ := x4
           have HQ5 := Lib.hid (heap_alloc_new w4 (.cells #[.int .u8 tg2, .slice a 0 cc, .string BS2] 40))
           have HG5 := Lib.hid (Qa         HG4.out (Qb          w4 (.cells #[.int .u8 tg2, .slice a 0 cc, .string BS2] 40)))
           clear hg4)
        | (go_at_call 25
           (with_reducible refine (HGT.out _ HGZ.out).mono ?_)
           rintro e w4 ⟨a, cc, rfl, hg4⟩
           have HG4 := Lib.hid (Qa         HGZ.out hg4)
           have HQ4 := Lib.hid (Qk        HQZ.out (Qa         (Qg         _) hg4))
           have y0 := (QaK      HQ4.out).1
           have y1 := (QaK      HQ4.out).2.1
           have y2 := (QaK      HQ4.out).2.2
           have f4 : ∀ j, w4.frozen? ⟨wr.heap.size, j, none⟩ = false := fun j => by have := HQ4.out; simp [World.frozen?, this]
           have HQ5 : Hid ((((w4.setCell ⟨wr.heap.size, 0, none⟩ (.int .u8 tg2)).setCell ⟨wr.heap.size, 1, none⟩ (.slice a 0 cc)).setCell ⟨wr.heap.size, 2, none⟩ (.string BS2)).heap[wr.heap.size]? = some (.cells #[.int .u8 tg2, .slice a 0 cc, .string BS2] 40 (0, 0))) := Lib.hid (heap_setCell_same _ _ 2 _ _ _ (heap_setCell_same _ _ 1 _ _ _ (heap_setCell_same w4 _ 0 _ _ _ HQ4.out)))
           have HG5 : Hid (wr.grownBy (((w4.setCell ⟨wr.heap.size, 0, none⟩ (.int .u8 tg2)).setCell ⟨wr.heap.size, 1, none⟩ (.slice a 0 cc)).setCell ⟨wr.heap.size, 2, none⟩ (.string BS2)) none) := Lib.hid (Qj        HG4.out (Qr       (Qr       (Qr       (Turn.refl w4 (· = wr.heap.size)) 0 (.int .u8 tg2)) 1 (.slice a 0 cc)) 2 (.string BS2)) (Nat.le_refl _))
           clear hg4)
        | fail)
      all_goals
        go_wp2
        go_meet
        exact ⟨_, a, cc, rfl, rfl, HQ5, HG5⟩
    case rest =>
    obtain ⟨gp, a, cc, rfl, rfl, HQ5, HG5⟩ := hcut
    have y2 := (QaK      HQ5.out).2.2
    have y9 := (Qd         HG5.out).cell d9 id
    have yk := (Qd         HG5.out).cell hk id
    have qs : (BS2.toList == BS2.toList) = true := beq_self_eq_true _
    have qs2 : (BS2.toList != BS2.toList) = false := by rw [bne, qs]; rfl
    clear d9 hk z9 zk HGT HQZ HGZ
    have HBS := Lib.hid hBS2
    clear hBS2
    go_upto_region 34 with fail
    go_cut [147] from 126 to 147 (fun rv wx => rv = .bool false ∧ Hid (wr.grownBy wx none))
    case first =>
      refine QD               (I := fun a0 LL X W => EJ SK34 (VK34 gp rg sg gb ob L oc j k b BS2) 6 (fun g W => Reg W g 0 [b]) wc a0 LL X W) (by kernel_rfl) (by kernel_rfl)
        (EJ.start 148 (by simp) (by decide) (Qg         _) (fun g W W2 h q => h.turn (Qd         q) (fun e => e))) ?_ ?_
      · show ∀ i, i < 22 → _
        refine Qc       (Qc       (Qc       (Qc       (Qc       (Qc       (Qc       (Qc       (Qc       (Qc       (Qc       (Qc       (Qc       (Qc       (Qc       (Qc       (Qc       (Qc       (Qc       (Qc       (Qc       (Qc       all_nil ?r0) ?r1) ?r2) ?r3) ?r4) ?r5) ?r6) ?r7) ?r8) ?r9) ?r10) ?r11) ?r12) ?r13) ?r14) ?r15) ?r16) ?r17) ?r18) ?r19) ?r20) ?r21
        case r0 =>
          refine StepAt.mk rfl (ns := []) (by kernel_rfl) rfl ?_
          intro LL X W h0 hn hI
          have e16 : X.tmps[16]?.getD undef = .int .i64 0 := hI.old 16 (by decide)
          refine Qe       (v := .int .i64 0) ?_ (hI.yield Qu         0 (by decide) (by decide) (fun _ => rfl))
          simp [go_sem, e16]
        case r1 =>
          refine StepAt.mk rfl (ns := [0]) (by kernel_rfl) rfl ?_
          intro LL X W h0 hn hI
          have e126 : X.tmps[126]?.getD undef = .int .i64 0 := hI.get 0 (by decide) (fun _ => rfl) (hn 0 (by decide))
          refine Qe       (v := .bool false) ?_ (hI.yield Qu         1 (by decide) (by decide) (fun _ => rfl))
          simp [go_sem, e126]
        case r2 =>
          refine StepAt.mk rfl (ns := [1]) (by kernel_rfl) rfl ?_
          intro LL X W h0 hn hI
          have e127 : X.tmps[127]?.getD undef = .bool false := hI.get 1 (by decide) (fun _ => rfl) (hn 1 (by decide))
          refine Qe       (v := .bool false) ?_ (hI.yield Qu         2 (by decide) (by decide) (fun _ => rfl))
          simp [go_sem, e127]
        case r3 =>
          refine StepAt.mkf rfl (ns := [2]) (by kernel_rfl) 2 128 false rfl (by kernel_rfl) (fun LL X W hn hI => hI.get 2 (by decide) (fun _ => rfl) (hn 2 (by decide))) ?_
          intro LL X W h0 hn hI
          have e15 : X.tmps[15]?.getD undef = .pointer (some ⟨gp, 0, none⟩) := hI.old 15 (by decide)
          refine Qe       (v := .pointer (some ⟨gp, 2, none⟩)) ?_ (hI.yield Qu         3 (by decide) (by decide) (fun _ => rfl))
          simp [go_sem, e15]
        case r4 =>
          refine StepAt.mkf rfl (ns := [3, 2]) (by kernel_rfl) 2 128 false rfl (by kernel_rfl) (fun LL X W hn hI => hI.get 2 (by decide) (fun _ => rfl) (hn 2 (by decide))) ?_
          intro LL X W h0 hn hI
          have e129 : X.tmps[129]?.getD undef = .pointer (some ⟨gp, 2, none⟩) := hI.get 3 (by decide) (fun _ => rfl) (hn 3 (by decide))
          have hG := hI.grown
          have c0 := (Qd         hG).cell y2 id
          refine Qe       (v := .string BS2) ?_ (hI.yield Qu         4 (by decide) (by decide) (fun _ => rfl))
          simp [go_sem, e129, c0]
        case r5 =>
          refine StepAt.mkf rfl (ns := [2]) (by kernel_rfl) 2 128 false rfl (by kernel_rfl) (fun LL X W hn hI => hI.get 2 (by decide) (fun _ => rfl) (hn 2 (by decide))) ?_
          intro LL X W h0 hn hI
          have e2 : X.tmps[2]?.getD undef = .int .u8 b := hI.old 2 (by decide)
          refine Qe       (v := .int .u8 b) ?_ (hI.yield Qu         5 (by decide) (by decide) (fun _ => rfl))
          simp [go_sem, e2]
        case r6 =>
          refine StepAt.mkf rfl (ns := [5, 2]) (by kernel_rfl) 2 128 false rfl (by kernel_rfl) (fun LL X W hn hI => hI.get 2 (by decide) (fun _ => rfl) (hn 2 (by decide))) ?_
          intro LL X W h0 hn hI
          have e131 : X.tmps[131]?.getD undef = .int .u8 b := hI.get 5 (by decide) (fun _ => rfl) (hn 5 (by decide))
          have hG := hI.grown
          refine QaC     (v := .slice (some ⟨W.heap.size, 0, none⟩) 1 1) (w' := W.alloc (.cells #[.int .u8 b] 5)) ?_ (hI.call Qu         (by decide) h0 (fun g => .slice (some ⟨g, 0, none⟩) 1 1) (fun g j hj => Qkb      g j hj) (fun _ => rfl) (Qb          W _) (Qk8     W b))
          simp [go_sem, e131]
        case r7 =>
          refine StepAt.mkf rfl (ns := [6, 2]) (by kernel_rfl) 2 128 false rfl (by kernel_rfl) (fun LL X W hn hI => hI.get 2 (by decide) (fun _ => rfl) (hn 2 (by decide))) ?_
          intro LL X W h0 hn hI
          obtain ⟨g, e132, hM⟩ := hI.made (by decide) (fun g => .slice (some ⟨g, 0, none⟩) 1 1) (fun _ => rfl) (hn 6 (by decide))
          replace e132 : X.tmps[132]?.getD undef = .slice (some ⟨g, 0, none⟩) 1 1 := e132
          have hcv := (by rw [← HBS.out]; exact Qam      g 0 1 1 [b] W hM rfl : (convert 101 9 (.slice (some ⟨g, 0, none⟩) 1 1)).run Tryz.prog W = .ok (.string BS2) W)
          refine Qe       (v := .string BS2) ?_ (hI.yield Qu         7 (by decide) (by decide) (fun _ => rfl))
          simp [go_sem, e132, hcv]
        case r8 =>
          refine StepAt.mkf rfl (ns := [4, 7, 2]) (by kernel_rfl) 2 128 false rfl (by kernel_rfl) (fun LL X W hn hI => hI.get 2 (by decide) (fun _ => rfl) (hn 2 (by decide))) ?_
          intro LL X W h0 hn hI
          have e130 : X.tmps[130]?.getD undef = .string BS2 := hI.get 4 (by decide) (fun _ => rfl) (hn 4 (by decide))
          have e133 : X.tmps[133]?.getD undef = .string BS2 := hI.get 7 (by decide) (fun _ => rfl) (hn 7 (by decide))
          refine Qe       (v := .bool false) ?_ (hI.yield Qu         8 (by decide) (by decide) (fun _ => rfl))
          simp [go_sem, e130, e133]
        case r9 =>
          refine StepAt.mk rfl (ns := [2, 8]) (by kernel_rfl) rfl ?_
          intro LL X W h0 hn hI
          have e128 : X.tmps[128]?.getD undef = .bool false := hI.get 2 (by decide) (fun _ => rfl) (hn 2 (by decide))
          have e134 : X.tmps[134]?.getD undef = .bool false := hI.get 8 (by decide) (fun _ => rfl) (hn 8 (by decide))
          refine Qe       (v := .bool false) ?_ (hI.yield Qu         9 (by decide) (by decide) (fun _ => rfl))
          simp [go_sem, e128, e134]
        case r10 =>
          refine StepAt.mk rfl (ns := [9, 2]) (by kernel_rfl) rfl ?_
          intro LL X W h0 hn hI
          have e135 : X.tmps[135]?.getD undef = .bool false := hI.get 9 (by decide) (fun _ => rfl) (hn 9 (by decide))
          refine Qe       (v := .bool false) ?_ (hI.yield Qu         10 (by decide) (by decide) (fun _ => rfl))
          simp [go_sem, e135]
        case r11 =>
          refine StepAt.mkf rfl (ns := [10]) (by kernel_rfl) 10 136 false rfl (by kernel_rfl) (fun LL X W hn hI => hI.get 10 (by decide) (fun _ => rfl) (hn 10 (by decide))) ?_
          intro LL X W h0 hn hI
          have e7 : X.tmps[7]?.getD undef = .pointer (some ⟨rg, 0, none⟩) := hI.old 7 (by decide)
          refine Qe       (v := .pointer (some ⟨rg, 0, none⟩)) ?_ (hI.yield Qu         11 (by decide) (by decide) (fun _ => rfl))
          simp [go_sem, e7]
        case r12 =>
          refine StepAt.mkf rfl (ns := [11, 10]) (by kernel_rfl) 10 136 false rfl (by kernel_rfl) (fun LL X W hn hI => hI.get 10 (by decide) (fun _ => rfl) (hn 10 (by decide))) ?_
          intro LL X W h0 hn hI
          have e137 : X.tmps[137]?.getD undef = .pointer (some ⟨rg, 0, none⟩) := hI.get 11 (by decide) (fun _ => rfl) (hn 11 (by decide))
          refine Qe       (v := .pointer (some ⟨rg, 0, none⟩)) ?_ (hI.yield Qu         12 (by decide) (by decide) (fun _ => rfl))
          simp [go_sem, e137]
        case r13 =>
          refine StepAt.mkf rfl (ns := [12, 10]) (by kernel_rfl) 10 136 false rfl (by kernel_rfl) (fun LL X W hn hI => hI.get 10 (by decide) (fun _ => rfl) (hn 10 (by decide))) ?_
          intro LL X W h0 hn hI
          have e138 : X.tmps[138]?.getD undef = .pointer (some ⟨rg, 0, none⟩) := hI.get 12 (by decide) (fun _ => rfl) (hn 12 (by decide))
          refine Qe       (v := .pointer (some ⟨rg, 1, none⟩)) ?_ (hI.yield Qu         13 (by decide) (by decide) (fun _ => rfl))
          simp [go_sem, e138]
        case r14 =>
          refine StepAt.mkf rfl (ns := [13, 10]) (by kernel_rfl) 10 136 false rfl (by kernel_rfl) (fun LL X W hn hI => hI.get 10 (by decide) (fun _ => rfl) (hn 10 (by decide))) ?_
          intro LL X W h0 hn hI
          have e139 : X.tmps[139]?.getD undef = .pointer (some ⟨rg, 1, none⟩) := hI.get 13 (by decide) (fun _ => rfl) (hn 13 (by decide))
          have hG := hI.grown
          have c0 := (Qd         hG).cell y9 id
          refine Qe       (v := .pointer (some ⟨sg, 0, none⟩)) ?_ (hI.yield Qu         14 (by decide) (by decide) (fun _ => rfl))
          simp [go_sem, e139, c0]
        case r15 =>
          refine StepAt.mkf rfl (ns := [10]) (by kernel_rfl) 10 136 false rfl (by kernel_rfl) (fun LL X W hn hI => hI.get 10 (by decide) (fun _ => rfl) (hn 10 (by decide))) ?_
          intro LL X W h0 hn hI
          have e9 : X.tmps[9]?.getD undef = .slice (some ⟨gb, ob, none⟩) L oc := hI.old 9 (by decide)
          refine Qe       (v := .slice (some ⟨gb, ob, none⟩) L oc) ?_ (hI.yield Qu         15 (by decide) (by decide) (fun _ => rfl))
          simp [go_sem, e9]
        case r16 =>
          refine StepAt.mkf rfl (ns := [10]) (by kernel_rfl) 10 136 false rfl (by kernel_rfl) (fun LL X W hn hI => hI.get 10 (by decide) (fun _ => rfl) (hn 10 (by decide))) ?_
          intro LL X W h0 hn hI
          have e14 : X.tmps[14]?.getD undef = .int .i64 (j : Int) := hI.old 14 (by decide)
          refine Qe       (v := .int .i64 (j : Int)) ?_ (hI.yield Qu         16 (by decide) (by decide) (fun _ => rfl))
          simp [go_sem, e14]
        case r17 =>
          refine StepAt.mkf rfl (ns := [15, 16, 10]) (by kernel_rfl) 10 136 false rfl (by kernel_rfl) (fun LL X W hn hI => hI.get 10 (by decide) (fun _ => rfl) (hn 10 (by decide))) ?_
          intro LL X W h0 hn hI
          have e141 : X.tmps[141]?.getD undef = .slice (some ⟨gb, ob, none⟩) L oc := hI.get 15 (by decide) (fun _ => rfl) (hn 15 (by decide))
          have e142 : X.tmps[142]?.getD undef = .int .i64 (j : Int) := hI.get 16 (by decide) (fun _ => rfl) (hn 16 (by decide))
          refine Qe       (v := .pointer (some ⟨gb, ob + j, none⟩)) ?_ (hI.yield Qu         17 (by decide) (by decide) (fun _ => rfl))
          simp [go_sem, e141, e142, p0, p1]
        case r18 =>
          refine StepAt.mkf rfl (ns := [17, 10]) (by kernel_rfl) 10 136 false rfl (by kernel_rfl) (fun LL X W hn hI => hI.get 10 (by decide) (fun _ => rfl) (hn 10 (by decide))) ?_
          intro LL X W h0 hn hI
          have e143 : X.tmps[143]?.getD undef = .pointer (some ⟨gb, ob + j, none⟩) := hI.get 17 (by decide) (fun _ => rfl) (hn 17 (by decide))
          have hG := hI.grown
          have c0 := (Qd         hG).cell yk id
          refine Qe       (v := .int .u32 (k : Int)) ?_ (hI.yield Qu         18 (by decide) (by decide) (fun _ => rfl))
          simp [go_sem, e143, c0]
        case r19 =>
          refine StepAt.mkf rfl (ns := [14, 18, 10, 10]) (by kernel_rfl) 10 136 false rfl (by kernel_rfl) (fun LL X W hn hI => hI.get 10 (by decide) (fun _ => rfl) (hn 10 (by decide))) ?_
          intro LL X W h0 hn hI
          have e140 : X.tmps[140]?.getD undef = .pointer (some ⟨sg, 0, none⟩) := hI.get 14 (by decide) (fun _ => rfl) (hn 14 (by decide))
          have e144 : X.tmps[144]?.getD undef = .int .u32 (k : Int) := hI.get 18 (by decide) (fun _ => rfl) (hn 18 (by decide))
          have hG := hI.grown
          refine QcE     (v := .int .i64 1) (R := fun w2 => W.grownBy w2 none) (f := 23) (vs := #[.pointer (some ⟨sg, 0, none⟩), .int .u32 (k : Int)]) ?_ ((HCT.out W (Qa         HG5.out hG)).mono fun e w2 h => ⟨h.1, by rw [← h.2]; exact Qy         _⟩) (fun w2 hg => hI.value Qu         19 (by decide) (by decide) (fun _ => rfl) hg)
          simp [go_sem, e140, e144]
        case r20 =>
          refine StepAt.mkf rfl (ns := [19, 10]) (by kernel_rfl) 10 136 false rfl (by kernel_rfl) (fun LL X W hn hI => hI.get 10 (by decide) (fun _ => rfl) (hn 10 (by decide))) ?_
          intro LL X W h0 hn hI
          have e145 : X.tmps[145]?.getD undef = .int .i64 1 := hI.get 19 (by decide) (fun _ => rfl) (hn 19 (by decide))
          refine Qe       (v := .bool false) ?_ (hI.yield Qu         20 (by decide) (by decide) (fun _ => rfl))
          simp [go_sem, e145]
        case r21 =>
          refine StepAt.mk rfl (ns := [10, 20]) (by kernel_rfl) rfl ?_
          intro LL X W h0 hn hI
          have e136 : X.tmps[136]?.getD undef = .bool false := hI.get 10 (by decide) (fun _ => rfl) (hn 10 (by decide))
          have e146 : X.tmps[146]?.getD undef = .bool false := hI.get 20 (by decide) (fun _ => rfl) (hn 20 (by decide))
          refine Qe       (v := .bool false) ?_ (hI.yield Qu         21 (by decide) (by decide) (fun _ => rfl))
          simp [go_sem, e136, e146]
      · intro LL X W hL hI
        replace hL : ∀ i, i < 22 → LL i = true := hL
        have hform := hI.form
        have v126 : At X 126 = .int .i64 0 := hI.at' 0 (by decide) (fun _ => rfl) (hL 0 (by omega))
        have v127 : At X 127 = .bool false := hI.at' 1 (by decide) (fun _ => rfl) (hL 1 (by omega))
        have v128 : At X 128 = .bool false := hI.at' 2 (by decide) (fun _ => rfl) (hL 2 (by omega))
        have v129 : At X 129 = .pointer (some ⟨gp, 2, none⟩) := hI.at' 3 (by decide) (fun _ => rfl) (hL 3 (by omega))
        have v130 : At X 130 = .string BS2 := hI.at' 4 (by decide) (fun _ => rfl) (hL 4 (by omega))
        have v131 : At X 131 = .int .u8 b := hI.at' 5 (by decide) (fun _ => rfl) (hL 5 (by omega))
        obtain ⟨gk, vk, hMk⟩ := hI.made (by decide) (fun g => .slice (some ⟨g, 0, none⟩) 1 1) (fun _ => rfl) (hL 6 (by omega))
        have v132 : At X 132 = .slice (some ⟨gk, 0, none⟩) 1 1 := by unfold At; rw [Array.getD_eq_getD_getElem?]; exact vk
        have v133 : At X 133 = .string BS2 := hI.at' 7 (by decide) (fun _ => rfl) (hL 7 (by omega))
        have v134 : At X 134 = .bool false := hI.at' 8 (by decide) (fun _ => rfl) (hL 8 (by omega))
        have v135 : At X 135 = .bool false := hI.at' 9 (by decide) (fun _ => rfl) (hL 9 (by omega))
        have v136 : At X 136 = .bool false := hI.at' 10 (by decide) (fun _ => rfl) (hL 10 (by omega))
        have v137 : At X 137 = .pointer (some ⟨rg, 0, none⟩) := hI.at' 11 (by decide) (fun _ => rfl) (hL 11 (by omega))
        have v138 : At X 138 = .pointer (some ⟨rg, 0, none⟩) := hI.at' 12 (by decide) (fun _ => rfl) (hL 12 (by omega))
        have v139 : At X 139 = .pointer (some ⟨rg, 1, none⟩) := hI.at' 13 (by decide) (fun _ => rfl) (hL 13 (by omega))
        have v140 : At X 140 = .pointer (some ⟨sg, 0, none⟩) := hI.at' 14 (by decide) (fun _ => rfl) (hL 14 (by omega))
        have v141 : At X 141 = .slice (some ⟨gb, ob, none⟩) L oc := hI.at' 15 (by decide) (fun _ => rfl) (hL 15 (by omega))
        have v142 : At X 142 = .int .i64 (j : Int) := hI.at' 16 (by decide) (fun _ => rfl) (hL 16 (by omega))
        have v143 : At X 143 = .pointer (some ⟨gb, ob + j, none⟩) := hI.at' 17 (by decide) (fun _ => rfl) (hL 17 (by omega))
        have v144 : At X 144 = .int .u32 (k : Int) := hI.at' 18 (by decide) (fun _ => rfl) (hL 18 (by omega))
        have v145 : At X 145 = .int .i64 1 := hI.at' 19 (by decide) (fun _ => rfl) (hL 19 (by omega))
        have v146 : At X 146 = .bool false := hI.at' 20 (by decide) (fun _ => rfl) (hL 20 (by omega))
        have v147 : At X 147 = .bool false := hI.at' 21 (by decide) (fun _ => rfl) (hL 21 (by omega))
        have HGE := Lib.hid hI.grown
        clear hI hL vk
        rw [show SK34 = [126, 127, 128, 129, 130, 131, 132, 133, 134, 135, 136, 137, 138, 139, 140, 141, 142, 143, 144, 145, 146, 147] from rfl, List.foldl_cons, List.foldl_cons, List.foldl_cons, List.foldl_cons, List.foldl_cons, List.foldl_cons, List.foldl_cons, List.foldl_cons, List.foldl_cons, List.foldl_cons, List.foldl_cons, List.foldl_cons, List.foldl_cons, List.foldl_cons, List.foldl_cons, List.foldl_cons, List.foldl_cons, List.foldl_cons, List.foldl_cons, List.foldl_cons, List.foldl_cons, List.foldl_cons, List.foldl_nil, v126, v127, v128, v129, v130, v131, v132, v133, v134, v135, v136, v137, v138, v139, v140, v141, v142, v143, v144, v145, v146, v147] at hform
        clear v126 v127 v128 v129 v130 v131 v132 v133 v134 v135 v136 v137 v138 v139 v140 v141 v142 v143 v144 v145 v146 v147
        subst hform
        simp only [Act.put, List.setIfInBounds_toArray, List.set_cons_succ, List.set_cons_zero]
        go_wp2
        go_meet
        exact ⟨rfl, Lib.hid (Qa         HG5.out HGE.out)⟩
    case rest =>
    obtain ⟨rfl, HG6⟩ := hcut
    go_wp2
    go_roundw
    case rel => exact ⟨j + 1, by omega, by go_num, Lib.hid (Qa         HG9.out HG6.out)⟩
    case measure => simp [intOf]; omega
  case neg =>
  have hq : decide (j < L) = false := decide_eq_false hlt
  obtain rfl : j = L := by omega
  have HX := Lib.hid (Qa         HG0.out (Qa         HS9.out.gr HG9.out))
  go_wp2
  go_ret
  exact ⟨rfl, HX.out⟩
end Sp
namespace Sp
open Go.RowKit Bs Dv Gr
open Cn (CnOk)
open Su (Sup SupOk T4)
theorem Qj0{w0 w:World}{sg g:Nat}{A:Nat→Prop}{s:SpS}(h:Sh w0 w sg g A s):Calls Tryz.prog 52 #[.pointer (some ⟨g,0,none⟩)] w fun e w'=>e=.returned (.string (strOfNums s.dv.dur.flatten))∧w=w':=by
 obtain⟨x,rfl,rfl,h,-⟩:=h;exact Qig x.g x.b x.P s.dv w h.dev.dev
theorem QhN{w0 w:World}{sg g:Nat}{A:Nat→Prop}{s:SpS}(h:Sh w0 w sg g A s):Calls Tryz.prog 55 #[.pointer (some ⟨g,0,none⟩)] w fun e w'=>∃a c,e=.returned (.slice a s.dv.pend.length c)∧w.grownBy w' none:=by
 obtain⟨x,rfl,rfl,h,-⟩:=h;refine(QgK x.g x.b x.P s.dv w h.dev.dev).mono ?_;rintro e w' ⟨a,c,e1,-,-,ht⟩;exact⟨a,c,e1,ht.grown⟩
theorem QdH{w0 w:World}{sg g:Nat}{A:Nat→Prop}{s:SpS}(h:Sh w0 w sg g A s)(hp:s.sup.pages.length≤100000)(n:Nat)(hn:n<4294967296)(hu:useE s n≠0):Calls Tryz.prog 28 #[.pointer (some ⟨sg,0,none⟩),.int .u32 (n:Int)] w (ShX w0 w sg g A (.int .i64 (useE s n)) s):=by
 obtain⟨x,rfl,rfl,h,d⟩:=h;have hE:shareE s n=useE s n:=by
  unfold shareE;unfold useE at hu ⊢;by_cases q:accE s n≠0
  ·rw[if_pos q,if_pos q]
  ·rw[if_neg q]at hu ⊢;rw[if_neg q];by_cases z:s.now.getD n 0=0
   ·rw[if_pos z];have hb:¬(n<2∨s.dv.blocks≤n):=fun e=>by
     have h1:accE s n=2:=by unfold accE;rw[if_pos e]
     exact q (by rw[h1];decide)
    have hl:=h.now.ok.len;unfold Cn.addE;rw[if_neg (fun q=>q ⟨by omega,by omega⟩),if_pos z]
   ·rw[if_neg z]at hu;exact absurd rfl hu
 refine(Qfg h n hn hp).mono fun e w' q=>?_
 have hN:shareN s n=s.now:=by unfold shareN;rw[hE,if_neg hu]
 rw[hN,hE]at q;exact⟨q.1,Sh.op h d q.2⟩
theorem QhL{w0 w:World}{sg g:Nat}{A:Nat→Prop}{s:SpS}(h:Sh w0 w sg g A s)(hp:s.sup.pages.length≤100000)(n:Nat)(hn:n<4294967296)(hu:useE s n≠0):Calls Tryz.prog 19 #[.pointer (some ⟨sg,0,none⟩),.int .u32 (n:Int)] w fun e w'=>e=.returned (.int .i64 (useE s n))∧w.grownBy w' none:=by
 obtain⟨x,rfl,rfl,h,-⟩:=h;exact QkC h n hn hp hu
end Sp
namespace Sp
open Go.RowKit Bs Dv Gr
open Su (Sup SupOk GeoOk putS supE T4)
open Cn (CnOk Ql)
open Fr (blk putF Fits)
def nA:Pg:=⟨3,[],rep 110 97⟩
def nB:Pg:=⟨3,[],rep 111 97⟩
def nK2:Pg:=⟨3,[2],[]⟩
def nK5:Pg:=⟨3,[5],[]⟩
def nK3:Pg:=⟨3,[3],[]⟩
def n2:Pg:=⟨2,[],[]⟩
def n5:Pg:=⟨5,[],[]⟩
def M5:List Int:=[1,1,1,0,0,1,0,0,0,0,0,0]
section
variable (s0 : SpS)
def mA:SpS:=putP s0 nA 3
def mB:SpS:=putP (mA s0) nK3 4
def mC:SpS:={ mB s0 with mark:=some (mB s0).now }
def mD:SpS:=putP (mC s0) n5 5
def mE:SpS:={ mD s0 with now:=M5 }
def mF:SpS:={ mE s0 with now:=(mB s0).now,mark:=none }
end
theorem QfS{t:Int}(ht:0≤t∧t<256){k:Int}(hk:0≤k∧k<4294967296):PgOk ⟨t,[k],[]⟩:=⟨ht,(fun j hj=>by rcases List.mem_cons.1 hj with rfl|hj;exact hk;cases hj),fun x hx=>by cases hx⟩
theorem Qdu{t:Int}(ht:0≤t∧t<256){d:List Int}(hd:IsB d):PgOk ⟨t,[],d⟩:=⟨ht,(fun j hj=>by cases hj),hd⟩
theorem nA_ok:PgOk nA:=Qdu (by decide) (QeO _ _ (by decide))
theorem nB_ok:PgOk nB:=Qdu (by decide) (QeO _ _ (by decide))
theorem Qlw:PgOk nK2:=QfS (by decide) (by decide)
theorem Qlx:PgOk nK5:=QfS (by decide) (by decide)
theorem Qf0:PgOk nK3:=QfS (by decide) (by decide)
theorem n2_ok:PgOk n2:=Qdu (by decide) (fun x hx=>by cases hx)
theorem n5_ok:PgOk n5:=Qdu (by decide) (fun x hx=>by cases hx)
theorem rep110:(dataP nA).length=112:=by rw[QbO];show 2+4*0+(rep 110 97).length=112;rw[QbB]
theorem rep111:(dataP nB).length=113:=by rw[QbO];show 2+4*0+(rep 111 97).length=113;rw[QbB]
theorem QgW{s:Dv.St}{m:Nat}{p:Pg}(h:pageF s.blocks (s.last m)=some p):kidsOf s m=p.kids.map Int.toNat:=by unfold kidsOf;rw[h]
structure NmF (s0:SpS):Prop where
 k0:SpOk s0 [] [] [] 0
 kA:SpOk (mA s0) [3] [] [] 1
 kB:SpOk (mB s0) [4] [] [] 2
 kC:SpOk (mC s0) [4] [] [4] 2
 kD:SpOk (mD s0) [4,5] [] [4] 3
 kF:SpOk (mF s0) [4] [] [] 4
 f0:frees s0=3 :: [4,5,6,7,8,9,10,11]
 fA:frees (mA s0)=4 :: [5,6,7,8,9,10,11]
 fC:frees (mC s0)=5 :: [6,7,8,9,10,11]
 fE:(frees (mE s0)).length=6
 fF:(frees (mF s0)).length=7
 e1:putErr s0 n2=2
 e2:putErr s0 nK2=2
 e3:putErr s0 nK5=8
 e4:putErr s0 nB=3
 e5:putErr s0 nA=0
 e6:putErr (mA s0) nK3=0
 e7:putErr (mC s0) n5=0
 dE:GoodC (mD s0).dv (mD s0).sup.pages M5 [5]∧∀m,M5.getD m 0≤(mD s0).now.getD m 0
 markB:(mB s0).mark=none
 cF:Cfg (mF s0) N2 N0 none [2] 1
theorem nmf{s0:SpS}(k0:SpOk s0 [] [] [] 0)(c0:Cfg s0 N0 N0 none [2] 1):NmF s0:=by
 have f0:frees s0=3 :: [4,5,6,7,8,9,10,11]:=by rw[c0.frees];decide +kernel
 have kA:SpOk (mA s0) [3] [] [] 1:=SpOk.put (a:=[]) (p:=nA) k0 (by decide) nA_ok (by decide) (by rw[c0.size,rep110];decide) f0 (by rw[c0.pages];decide);have cA:Cfg (mA s0) N1 N0 none [2] 1:=c0.put k0 (by decide) (by rw[rep110];decide);have fA:frees (mA s0)=4 :: [5,6,7,8,9,10,11]:=by rw[cA.frees];decide +kernel
 have kB:SpOk (mB s0) [4] [] [] 2:=SpOk.put (a:=[]) (p:=nK3) kA (by decide) Qf0 (by decide) (by rw[cA.size];decide) fA (by rw[cA.pages];decide);have cB:Cfg (mB s0) N2 N0 none [2] 1:=cA.put kA (by decide) (by decide);have kC:SpOk (mC s0) [4] [] [4] 2:=kB.mark' cB.mark;have cC:Cfg (mC s0) N2 N0 (some N2) [2] 1:=⟨cB.size,cB.blocks,cB.now,cB.held,by show some (mB s0).now=_;rw[cB.now],cB.pages,cB.gen⟩;have fC:frees (mC s0)=5 :: [6,7,8,9,10,11]:=by rw[cC.frees];decide +kernel
 have kD:SpOk (mD s0) [4,5] [] [4] 3:=SpOk.put (a:=[4]) (p:=n5) kC (by decide) n5_ok (by decide) (by rw[cC.size];decide) fC (by rw[cC.pages];decide);have cD:Cfg (mD s0) N5 N0 (some N2) [2] 1:=cC.put kC (by decide) (by decide)
 -- what the pages hold
 have pgA:pageF 12 ((mA s0).dv.last 3)=some nA:=by
  have h:=k0.Qc1 (p:=nA) (n:=3) (by decide) (by rw[c0.blocks];decide) (by rw[c0.size,rep110];decide) nA_ok (by decide) (fun k hk=>by cases hk);rw[c0.blocks]at h;exact h
 have pgB:pageF 12 ((mB s0).dv.last 4)=some nK3:=by
  have h:=kA.Qc1 (p:=nK3) (n:=4) (by decide) (by rw[cA.blocks];decide) (by rw[cA.size];decide) Qf0 (by decide) (fun k hk=>by rw[cA.blocks];rcases List.mem_cons.1 hk with rfl|hk;exact⟨by decide,by decide⟩;cases hk);rw[cA.blocks]at h;exact h
 have lB:(mB s0).dv.last 3=(mA s0).dv.last 3:=by
  have h:=(kA.Qav (p:=nK3) (n:=4) (by rw[cA.blocks];decide) (by rw[cA.size];decide)).2.2.2 3;rw[if_neg (by decide)]at h;exact h
 have lD:∀m,m≠5→(mD s0).dv.last m=(mB s0).dv.last m:=fun m hm=>by
  have h:=(kC.Qav (p:=n5) (n:=5) (by rw[cC.blocks];decide) (by rw[cC.size];decide)).2.2.2 m;rw[if_neg hm]at h;exact h
 have q4:kidsOf (mD s0).dv 4=[3]:=QgW (p:=nK3) (by rw[cD.blocks,lD 4 (by decide)];exact pgB);have q3:kidsOf (mD s0).dv 3=[]:=QgW (p:=nA) (by rw[cD.blocks,lD 3 (by decide),lB];exact pgA);have dE:GoodC (mD s0).dv (mD s0).sup.pages M5 [5]:=by
  have g1:GoodC (mD s0).dv (mD s0).sup.pages N5 (4 :: [5]):=by have:=kD.now;rw[cD.now]at this;exact this
  have g2:=g1.last (by decide);rw[q4]at g2;have g3:GoodC (mD s0).dv (mD s0).sup.pages (N5.set 4 0) (3 :: [5]):=g2;have g4:=g3.last (by decide);rw[q3]at g4;exact g4
 have dL:∀m,M5.getD m 0≤(mD s0).now.getD m 0:=fun m=>by
  rw[cD.now];by_cases hm:m<12
  ·revert m
   decide
  ·rw[List.getD_eq_getElem?_getD,List.getD_eq_getElem?_getD,List.getElem?_eq_none (show M5.length≤m by show 12≤m;omega),List.getElem?_eq_none (show N5.length≤m by show 12≤m;omega)];exact Int.le_refl _
 have kE:SpOk (mE s0) [5] [] [4] 4:=kD.turn dE (fun m h0=>by
  have h1:=dL m;have h2:=dE.cok.at' m;omega) (fun m=>by
  have h1:=dL m;have h2:=(kD.low m).1;omega)
 have mk:(mE s0).mark=some (mB s0).now:=rfl;have kF:SpOk (mF s0) [4] [] [] 4:=kE.back mk;have cF:Cfg (mF s0) N2 N0 none [2] 1:=⟨cD.size,cD.blocks,cB.now,cD.held,rfl,cD.pages,cD.gen⟩;have ck:∀{s:SpS} {own hown mown:List Nat} {T:Nat} {N H pg:List Int} {M:Option (List Int)} {g:Int},SpOk s own hown mown T→Cfg s N H M pg g→∀p:Pg,checkE s p≠0→putErr s p=checkE s p:=fun _ _ p h=>by unfold putErr;rw[if_pos h]
 refine⟨k0,kA,kB,kC,kD,kF,f0,fA,fC,?_,by rw[cF.frees];decide +kernel,?_,?_,?_,?_,?_,?_,?_,⟨dE,dL⟩,cB.mark,cF⟩
 ·rw[QaF]
  show(frL (mD s0).dv.blocks M5 (mD s0).held (mD s0).mark).length=6
  rw[cD.blocks,cD.held,cD.mark]
  decide +kernel
 ·have h:checkE s0 n2=2:=by unfold checkE;rw[if_pos (.inl (by decide))]
  rw[ck k0 c0 n2 (by rw[h];decide),h]
 ·have ha:accE s0 2=2:=by unfold accE;rw[if_neg (by rw[c0.blocks];decide),if_pos (by rw[c0.pages];decide)]
  have h:checkE s0 nK2=2:=by
   unfold checkE;rw[if_neg (by decide),if_neg (fun q=>by have:=q 0 (by decide);rw[show(nK2.kids.getD 0 0).toNat=2 from rfl,ha]at this;cases this)]
  rw[ck k0 c0 nK2 (by rw[h];decide),h]
 ·have ha:accE s0 5=0:=by unfold accE;rw[if_neg (by rw[c0.blocks];decide),if_neg (by rw[c0.pages];decide)]
  have hu:useE s0 5=8:=by unfold useE;rw[ha,if_neg (fun q=>q rfl),if_pos (by rw[c0.now];decide)]
  have h:checkE s0 nK5=8:=by
   unfold checkE;rw[if_neg (by decide),if_pos (fun j hj=>by
    have hj:j<1:=hj;obtain rfl:j=0:=by omega
    exact ha),if_neg (fun q=>by have:=q 0 (by decide);rw[show(nK5.kids.getD 0 0).toNat=5 from rfl,hu]at this;cases this)]
  rw[ck k0 c0 nK5 (by rw[h];decide),h]
 ·have hc:checkE s0 nB=0:=by
   unfold checkE;rw[if_neg (by decide),if_pos (fun j (hj:j<nB.kids.length)=>absurd hj (Nat.not_lt_zero j)),if_pos (fun j (hj:j<nB.kids.length)=>absurd hj (Nat.not_lt_zero j))]
  have hf:(putF s0.dv.size (nB.tag,s0.sup.gen+1,dataP nB)).2=3:=by
   unfold putF;have hfi:=k0.fits;rw[if_neg (fun q=>q hfi),if_pos (by show(s0.dv.size:Int)-16<((dataP nB).length:Int);rw[rep111,c0.size];decide)]
  unfold putErr;rw[hc,hf,if_neg (fun q=>q rfl),if_pos (by decide)]
 ·rw[k0.Qa1 (by decide) (fun k hk=>by cases hk) (by decide) (by rw[c0.size,rep110];decide),f0,c0.pages]
  decide
 ·rw[kA.Qa1 (by decide) (fun k hk=>by rcases List.mem_cons.1 hk with rfl|hk;exact List.mem_cons_self ..;cases hk) (by decide) (by rw[cA.size];decide),fA,cA.pages]
  decide
 ·rw[kC.Qa1 (by decide) (fun k hk=>by cases hk) (by decide) (by rw[cC.size];decide),fC,cC.pages]
  decide
theorem nmf0:NmF (firstP 128 12):=nmf (QdO QaQ QbK) QeY
end Sp
namespace Sp
open Go.RowKit Bs Dv Gr
open Su (Sup SupOk GeoOk putS supE T4 getS)
theorem Qjn(w:World):Calls Tryz.prog 20 #[.pointer none] w fun e w'=>e=.returned (.int .i64 0)∧w=w':=by
 have HV:=hid (QaZ w);go_enter Tryz.func20,Tryz.ntmps20
 go_wp2_with (first|(go_at_call 83;refine HV.out.mono ?_;rintro e w' ⟨rfl,rfl⟩)|fail)
 go_ret
 exact⟨rfl,rfl⟩
theorem QgL(n:Nat)(w:World) :
  Calls Tryz.prog 86 #[.pointer none,.int .u32 (n:Int)] w fun e w'=>e=.returned (.tuple #[.agg zeroPg,.int .i64 1])∧w.grownBy w' none:=by
 have HC0:=hid (heap_alloc_new w (.cells #[.int .u8 0,.slice none 0 0,.string ⟨#[]⟩] 40));have HG0:=hid (Qb w (.cells #[.int .u8 0,.slice none 0 0,.string ⟨#[]⟩] 40));obtain⟨W0,hW0⟩:∃X,w.alloc (.cells #[.int .u8 0,.slice none 0 0,.string ⟨#[]⟩] 40)=X:=⟨_,rfl⟩;rw[hW0]at HC0 HG0;have HW0:=hid hW0;have HU:=hid (Qgs (n:Int) W0);clear hW0;go_enter Tryz.func86,Tryz.ntmps86
 go_wp2_with fail
 rw[HW0.out];refine HU.out.mono ?_;rintro e w1 ⟨rfl,rfl⟩;dsimp only;go_wp2_with (first
  |(with_reducible refine Qt rfl (.tmp 4) (.tmp 17) rfl w.heap.size rfl (.int .u8 0) (.slice none 0 0) (.string ⟨#[]⟩) rfl rfl rfl rfl _ _ _ HC0.out ?_;intro w6 hq6 ht6)
  |fail)
 exact bodyPost_ret (QB rfl _ _ _ _ _ _ (.int .i64 1) rfl hq6 rfl) rfl ⟨rfl,Qj HG0.out ht6 (Nat.le_refl _)⟩
theorem drop_nil(n:Nat)(w:World) :
  Calls Tryz.prog 19 #[.pointer none,.int .u32 (n:Int)] w fun e w'=>e=.returned (.int .i64 1)∧w.grownBy w' none:=by
 have hA:=Qb w (.cells #[.int .u32 (n:Int)] 35);have hB:=Qa hA (Qb (w.alloc (.cells #[.int .u32 (n:Int)] 35)) (.cells #[.int .u8 0,.slice (some ⟨w.heap.size,0,none⟩) 1 1,.string ⟨#[]⟩] 40));have hz:=heap_alloc_new (w.alloc (.cells #[.int .u32 (n:Int)] 35)) (.cells #[.int .u8 0,.slice (some ⟨w.heap.size,0,none⟩) 1 1,.string ⟨#[]⟩] 40);have hzc:=(Ws.QeF w [(n:Int)] (by simp)).grown (Qb (w.alloc (.cells #[.int .u32 (n:Int)] 35)) (.cells #[.int .u8 0,.slice (some ⟨w.heap.size,0,none⟩) 1 1,.string ⟨#[]⟩] 40));have hzc2:=hzc.at_ _ rfl 0 (.int .u32 (n:Int)) rfl;rw[Addr.add_lit]at hzc2;have hsz:(w.alloc (.cells #[.int .u32 (n:Int)] 35)).heap.size=w.heap.size+1:=by simp
 rw[hsz]at hz;obtain⟨W2,hW2⟩:∃X,(w.alloc (.cells #[.int .u32 (n:Int)] 35)).alloc (.cells #[.int .u8 0,.slice (some ⟨w.heap.size,0,none⟩) 1 1,.string ⟨#[]⟩] 40)=X:=⟨_,rfl⟩;rw[hW2]at hB hz;rw[hW2,Nat.add_zero]at hzc2;have HW2:=hid hW2;have HRL:=hid (fun W (_:w.grownBy W none)=>QgL n W);have HG2:=hid hB;have k1:W2.cell? ⟨w.heap.size+1,1,none⟩=some (.slice (some ⟨w.heap.size,0,none⟩) 1 1):=by rw[cell_of_row _ _ _ _ _ _ hz];rfl
 have k2:W2.frozen? ⟨w.heap.size+1,1,none⟩=false:=by simp[World.frozen?,hz]
 have HST:Hid (w.grownBy (W2.setCell ⟨w.heap.size+1,1,none⟩ (.slice (some ⟨w.heap.size,0,none⟩) 0 0)) none):=hid (Qj hB (Turn.setCell W2 ⟨w.heap.size+1,1,none⟩ (.slice (some ⟨w.heap.size,0,none⟩) 0 0) (S:=(·=w.heap.size+1)) rfl) (by omega));clear hA hB hz hzc hsz hW2;go_enter Tryz.func19,Tryz.ntmps19
 go_wp2
 go_step3
 go_wp2
 go_step3
 go_wp2;rw[HW2.out]
 go_loopw [5] (fun s5 wr=>s5=.slice (some ⟨w.heap.size+1,0,none⟩) 1 1∧W2=wr) (fun _ _=>0)
 case atStart=>exact⟨rfl,rfl⟩
 case round=>
  obtain⟨rfl,rfl⟩:=hrel;go_upto_region 4 with fail
  go_loopw [5] (fun s5 wr=>s5=.slice (some ⟨w.heap.size+1,0,none⟩) 1 1∧W2=wr) (fun _ _=>0)
  case atStart=>exact⟨rfl,rfl⟩
  case round=>
   obtain⟨rfl,rfl⟩:=hrel;go_wp2_with fail
   refine(HRL.out _ HST.out).mono ?_;rintro e w3 ⟨rfl,hg3⟩;have HG3:=hid (Qa HST.out hg3);clear hg3;dsimp only[zeroPg];go_wp2;rw[Exit.noGoto_ret];go_ret
   exact⟨rfl,Qa HG3.out (Qb _ _)⟩
theorem Qd4:GeoOk ((128:Nat):Int) ((1400:Nat):Int):=by unfold GeoOk;decide
theorem Qgt:supE (firstS 128 1400)=3:=by
 have h1:=QdD Qd4;have h2:((firstS 128 1400).pages.length:Int)=25:=by
  have h3:=h1.2.2.2.1;rw[h3]
  show Su.pagesF ((128:Nat):Int) ((1400:Nat):Int)=25
  decide +kernel
 unfold supE;rw[if_pos h1,if_pos];rw[h2]
 show Fr.room ((128:Nat):Int)<_
 decide
theorem Qhb:(Su.chooseS ((St.fresh 128 12 (zeros 128 12)).last 0) ((St.fresh 128 12 (zeros 128 12)).last 1)).2.2=10:=by
 have hz:∀j,j<12→(St.fresh 128 12 (zeros 128 12)).last j=rep 128 0:=fun j hj=>by
  show(zeros 128 12).getD j []=_
  unfold zeros;rw[List.getD_eq_getElem?_getD,List.getElem?_replicate,if_pos hj]
  rfl
 rw[hz 0 (by decide),hz 1 (by decide),Su.QgA (Qd5 128 (by decide)) (Qd5 128 (by decide))]
def NewH(w0 w:World)(size n:Nat)(e:Ending)(w':World):Prop:=∃g b,e=.returned (.tuple #[.pointer (some ⟨g,0,none⟩),.int .i64 0])∧Held w0 w' g b (.slice none 0 0) (St.fresh size n (zeros size n))∧w.grownBy w' none
theorem Qf5(w0 w:World)(size n:Nat)(hw:w0.grownBy w none)(hg:GeoOk size n):Calls Tryz.prog 14 #[.agg #[.int .i64 (size:Int),.int .i64 (n:Int)]] w (NewH w0 w size n):=by
 refine(QcD size n w (decide_eq_true hg)).mono ?_;intro e w' hx;obtain⟨g,b,he,hd,ht⟩:=Qju (Qd hw) hx;exact⟨g,b,he,hd,ht.grown⟩
end Sp
namespace Sp
open Go.RowKit Bs Dv Gr
open Su (Sup SupOk GeoOk putS supE T4 getS)
structure LpI (s:SpS) (sup:Sup) (i k:Nat):Prop where
 ok:∃own,SpOk s own [] [] (4+i)
 size:s.dv.size=128
 blocks:s.dv.blocks=12
 held:s.held=N0
 sup_:s.sup=sup
 pages:sup.pages=[2]
 few:(k=0∧i≤6∧(frees s).length=7-i)∨(i=6+k∧(frees s).length=1)
theorem LpI.start{s:SpS}(h:SpOk s [4] [] [] 4)(c:Cfg s N2 N0 none [2] 1)(hf:(frees s).length=7):LpI s s.sup 0 0:=⟨⟨_,h⟩,c.size,c.blocks,c.held,rfl,c.pages,.inl ⟨rfl,by omega,by omega⟩⟩
def PutL(w0 _w:World)(sg g:Nat)(A:Nat→Prop)(sup:Sup)(i k:Nat)(e:Ending)(w':World):Prop:=
 ∃(v1 v2:Int) (s':SpS) (k':Nat),e=.returned (.tuple #[.int .u32 v1,.int .i64 v2])∧Sh w0 w' sg g A s'∧LpI s' sup (i+1) k'∧((v2=9∧k'=k+1)∨(v2=0∧k'=k))
theorem put_l{w0 w:World}{sg g:Nat}{A:Nat→Prop}{s:SpS}{sup:Sup}{i k:Nat}(h:Sh w0 w sg g A s)(hl:LpI s sup i k)(hi:i≤20) :
  Calls Tryz.prog 16 #[.pointer (some ⟨sg,0,none⟩),.agg #[.int .u8 5,.slice none 0 0,.string ⟨#[]⟩]] w (PutL w0 w sg g A sup i k):=by
 obtain⟨own,hk⟩:=hl.ok;have hpg:s.sup.pages.length=1:=by rw[hl.sup_,hl.pages];rfl
 have hE:=hk.Qa1 (p:=n5) (by decide) (fun k hk=>by cases hk) (by decide) (by rw[hl.size];decide);rw[hpg]at hE;by_cases hf:(frees s).length≤1
 ·rw[if_pos hf]at hE;refine(Qar h hk (by omega) n5 none 0 n5_ok (Q9 w) (by decide) hE (by decide)).mono ?_;rintro e w' ⟨e1,e2,-⟩;refine⟨0,9,s,k+1,e1,e2,⟨⟨own,hk.more (by omega)⟩,hl.size,hl.blocks,hl.held,hl.sup_,hl.pages,.inr ?_⟩,.inl ⟨rfl,rfl⟩⟩;rcases hl.few with ⟨a,b,c⟩|⟨a,b⟩
  ·omega
  ·exact⟨by omega,b⟩
 ·rw[if_neg hf]at hE;obtain⟨m,fr,hfr⟩:∃m fr,frees s=m :: fr:=by
   cases q:frees s with
   |nil=>rw[q]at hf;exact absurd (Nat.zero_le _) hf
   |cons m fr=>exact⟨m,fr,rfl⟩
  have hfl:1≤fr.length:=by rw[hfr,List.length_cons]at hf;omega
  refine(Qbs h hk (by omega) n5 none 0 n5_ok (Q9 w) (by decide) hE hfr).mono ?_;rintro e w' ⟨e1,e2,-⟩;have hlen:(dataP n5).length+16≤s.dv.size:=by rw[hl.size];decide
  have hm:=(hk.free (n:=m) (by rw[hfr];exact List.mem_cons_self ..)).1;obtain⟨a1,a2,-⟩:=hk.Qav (p:=n5) hm hlen;have h1:SpOk (putP s n5 m) (own++[m]) [] [] (4+i+1):=SpOk.put (a:=own) (p:=n5) (by show SpOk s (own++[]) [] [] _;rw[List.append_nil];exact hk) (by omega) n5_ok (by decide) hlen hfr (by rw[hpg];exact hfl);have e5:frees (putP s n5 m)=fr:=by
   have e6:frees (putP s n5 m)=frees { s with now:=s.now.set m 1 }:=by
    rw[QaF,QaF,a2]
    rfl
   rw[e6];exact QcM hfr (by rw[hk.now.cok.len])
  refine⟨m,0,_,k,e1,e2,⟨⟨_,h1⟩,a1.trans hl.size,a2.trans hl.blocks,hl.held,hl.sup_,hl.pages,?_⟩,.inr ⟨rfl,rfl⟩⟩;rw[e5];have hl2:(frees s).length=fr.length+1:=by rw[hfr];rfl
  rcases hl.few with ⟨a,b,c⟩|⟨a,b⟩
  ·exact .inl ⟨a,by omega,by omega⟩
  ·omega
structure EndF (s:SpS):Prop where
 fr:(frees s).length=9
 get:getErr s 3=8
 com99:comE s 99=2
 com5:comE s 5=8
 use2:useE s 2=2
 pgs:s.sup.pages.length≤100000
theorem Qlu{s:SpS}{sup:Sup}(h:LpI s sup 20 14):EndF { s with now:=s.held,mark:=none }:=by
 have hp:s.sup.pages=[2]:=by rw[h.sup_,h.pages]
 have ha:∀n,accE { s with now:=s.held,mark:=none } n=if n<2∨12≤n then 2 else if (n:Int)∈([2]:List Int) then 2 else 0:=fun n=>by
  unfold accE
  show(if n<2∨s.dv.blocks≤n then(2:Int) else if (n:Int)∈s.sup.pages then 2 else 0)=_
  rw[h.blocks,hp]
 have hu:∀n,useE { s with now:=s.held,mark:=none } n=if accE { s with now:=s.held,mark:=none } n≠0 then accE { s with now:=s.held,mark:=none } n else if N0.getD n 0=0 then 8 else 0:=fun n=>by
  unfold useE
  show(if _ then _ else if s.held.getD n 0=0 then(8:Int) else 0)=_
  rw[h.held]
 have u3:useE { s with now:=s.held,mark:=none } 3=8:=by rw[hu,ha];decide
 refine⟨?_,?_,?_,?_,by rw[hu,ha];decide,by show s.sup.pages.length≤_;rw[hp];decide⟩
 ·rw[QaF]
  show(frL s.dv.blocks s.held s.held none).length=9
  rw[h.blocks,h.held]
  decide +kernel
 ·unfold getErr;rw[u3,if_pos (by decide)]
 ·unfold comE;rw[if_neg (by decide),show(99:Int).toNat=99 from rfl,hu,ha]
  decide
 ·unfold comE;rw[if_neg (by decide),show(5:Int).toNat=5 from rfl,hu,ha]
  decide
end Sp
end Go.Proofs.YtbbbocoliandcaaGreatDoor
