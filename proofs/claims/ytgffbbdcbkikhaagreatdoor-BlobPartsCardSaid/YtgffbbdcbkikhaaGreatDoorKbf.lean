/- Parts of the proof. -/
import Derived.Test.YtgffbbdcbkikhaaGreatDoorKbV
import Derived.Test.YtgffbbdcbkikhaaGreatDoorKbd
set_option maxRecDepth 100000
set_option maxHeartbeats 8000000
open Go.Lib (hid)
namespace Go.Proofs.YtgffbbdcbkikhaaGreatDoor
namespace Sp
open Go.RowKit Go.Shelf Go.Maps Bs Dv Gr
open Cf (FeedsX KpS)
attribute [local go_sem] Oper.semAt_some
def keyN(n:Nat):Lit:=.int .u32 (n:Int)
def seenD(seen:List Nat):DataW Unit:=setOf (.agg []) (seen.reverse.map keyN)
theorem Qi7:Keyed Tryz.prog 30:=int_keyed Tryz.underlying30
theorem Qi1{n:Nat}(h:n<4294967296):keyOf Tryz.prog 30 (.int .u32 (n:Int))=some (keyN n):=keyOf_int_mk Tryz.underlying30 (by simp[Lit.wf,IntKind.min,IntKind.max,IntKind.signed,IntKind.bits];omega)
theorem Qjz(seen:List Nat)(n:Nat):seenD (n :: seen)=(seenD seen).put (keyN n) (.agg []):=by
 unfold seenD;rw[List.reverse_cons,List.map_append,List.map_singleton,setOf_snoc]
theorem QkQ(seen:List Nat)(n:Nat):Maps.has (seenD seen) (keyN n)=decide (n∈seen):=by
 unfold seenD;rw[has_setOf _ _ _ (by intro x hx;obtain⟨y,_,rfl⟩:=List.mem_map.1 hx;trivial)];rw[Bool.eq_iff_iff,List.any_eq_true,decide_eq_true_iff]
 constructor
 ·rintro⟨z,hz,hs⟩;obtain⟨x,hx,rfl⟩:=List.mem_map.1 hz;have e:(x:Int)=(n:Int):=by simpa [keyN,Lit.sameKey] using hs
  have e:x=n:=by omega
  exact e▸List.mem_reverse.1 hx
 ·intro h;exact⟨keyN n,List.mem_map.2 ⟨n,List.mem_reverse.2 h,rfl⟩,by simp[keyN,Lit.sameKey]⟩
theorem QjS(W:World):(zeroValue 211).run Tryz.prog W=.ok (.agg #[]) W:=by kernel_rfl
def SeenM(W:World)(b:Nat)(seen:List Nat):Prop:=W.ownsMap Tryz.prog 30 (unitElem (H:=Unit)) b seen.length (seenD seen)
theorem QjA{W:World}{b:Nat}{seen:List Nat}(h:SeenM W b seen)(n:Nat)(hn:n<4294967296):(Instr.lookup 212 (.map (some b)) (.int .u32 (n:Int)) true).run Tryz.prog W=.ok (.tuple #[.agg #[],.bool (decide (n∈seen))]) W:=by
 obtain⟨v,ps,h1,h2⟩:=World.ownsMap.look_ok h Qi7 Tryz.underlying212 (QjS W) unitElem_mk (Qi1 hn);obtain⟨rfl,_⟩:=unitElem_inv h2;rw[h1,QkQ]
theorem QgF{W:World}{b:Nat}{seen:List Nat}(h:SeenM W b seen)(n:Nat)(hn:n<4294967296)(hl:seen.length<maxLen):∃W',(Instr.mapUpdate 212 (.map (some b)) (.int .u32 (n:Int)) (.agg #[])).run Tryz.prog W=.ok () W'∧SeenM W' b (n :: seen)∧W.grownBy W' (some b)∧∃o:Obj,W.heap[b]?=some o∧o.isCells=false:=by
 obtain⟨W',h1,h2,h3⟩:=World.ownsMap.store h Qi7 Tryz.underlying212 hl (Qi1 hn) unitElem_mk;have h5:=h3.grown;obtain⟨es,clock,-,-,h4,-⟩:=h3;refine⟨W',h1,?_,h5,_,h4,rfl⟩;unfold SeenM;rw[Qjz];exact h2
theorem QkR(W:World):SeenM (W.alloc (.map #[] 0)) W.heap.size []:=World.ownsMap_made _ _ _ _
theorem QbI{W W':World}{b:Nat}{seen:List Nat}(h:SeenM W b seen)(k:W'.heap[b]?=W.heap[b]?):SeenM W' b seen:=by
 obtain⟨es,clock,hb,r⟩:=h;exact⟨es,clock,k.trans hb,r⟩
theorem QcB{W:World}{b:Nat}{seen:List Nat}(h:SeenM W b seen):b<W.heap.size:=World.ownsMap.lt h
theorem Qjo(sg:Nat)(ra:Option Addr)(rn rc:Nat)(w:World) :
  Calls Tryz.prog 118 #[.pointer (some ⟨sg,0,none⟩),.slice ra rn rc] w fun e w'=>
   e=.returned (.func (.func 138) #[] #[.pointer (some ⟨w.heap.size+1,0,none⟩),.pointer (some ⟨w.heap.size,0,none⟩)]) ∧
   w'=(w.alloc (.cells #[.pointer (some ⟨sg,0,none⟩)] 24)).alloc (.cells #[.slice ra rn rc] 39):=by
 have hmf:∀(fn:Fn) (first cap:Array Value) (w:World),(Instr.makeFunc fn first cap).run Tryz.prog w=.ok (.func fn first cap) w:=fun _ _ _ _=>rfl
 go_enter Tryz.func118,Tryz.ntmps118
 go_wp2;go_ret
 exact⟨rfl,rfl⟩
theorem QkJ(sg:Nat)(ra:Option Addr)(rn rc:Nat)(w:World) :
  Calls Tryz.prog 89 #[.pointer (some ⟨sg,0,none⟩),.slice ra rn rc] w fun e w'=>
   e=.returned (.func (.func 117) #[] #[.pointer (some ⟨w.heap.size,0,none⟩),.pointer (some ⟨w.heap.size+1,0,none⟩)]) ∧
   w'=(w.alloc (.cells #[.pointer (some ⟨sg,0,none⟩)] 24)).alloc (.cells #[.slice ra rn rc] 39):=by
 have hmf:∀(fn:Fn) (first cap:Array Value) (w:World),(Instr.makeFunc fn first cap).run Tryz.prog w=.ok (.func fn first cap) w:=fun _ _ _ _=>rfl
 go_enter Tryz.func89,Tryz.ntmps89
 go_wp2;go_ret
 exact⟨rfl,rfl⟩
def ItsT(B:Nat)(A:World)(i:Nat):Prop:=B≤i∧∃o:Obj,A.heap[i]?=some o∧(o.isCells=false∨∃cs fr,o=.cells cs 30 fr)
def EP(s:SpS)(L:List Nat)(B:Nat)(k:Nat)(args:Array Value)(W:World):Prop:=
 ∃p a c,pageF s.dv.blocks (s.dv.last (L.getD k 0))=some p∧args=#[.agg (pgV p a p.kids.length c),.int .i64 0]∧Ws.Seg W a p.kids.length c p.kids∧∀ad,a=some ad→B≤ad.block
theorem QeX{W:World}{base oc:Nat}{oa:Option Addr}{l:List Int}{x:Int}(h:Stk W base oa oc (l++[x])):Stk W base oa oc l:=by
 have hl:(l++[x]).length=l.length+1:=by simp
 rcases h.2 with ⟨e,e0⟩|⟨g,cap,cur,e1,h3,h4,h5,h6,h7,h8⟩
 ·rw[hl]at e0;omega
 ·injection e1 with e1 e2 e3
  subst e1 e3;refine⟨by simp,.inr ⟨g,oc,cur,rfl,h3,h4,by rw[hl]at h5;omega,h6,h7,?_⟩⟩;rw[hl,List.map_append,Nat.mul_one]at h8;rw[Nat.mul_one];have h9:=congrArg (List.take l.length) h8;rw[List.take_take,Nat.min_eq_left (Nat.le_succ _)]at h9;rw[h9];exact List.take_left' (by simp)
theorem QkW{W:World}{base oc:Nat}{oa:Option Addr}{l:List Int}(h:Stk W base oa oc l){i:Nat}(hi:blkO oa i):base≤i∧∃o:Obj,W.heap[i]?=some o∧(o.isCells=false∨∃cs fr,o=.cells cs 30 fr):=by
 obtain⟨ad,rfl,rfl⟩:=hi;rcases h.2 with ⟨e,_⟩|⟨g,cap,cur,e1,h3,h4,_⟩
 ·cases e
 ·injection e1 with e1 _ _
  injection e1 with e1
  subst e1;exact⟨h3,_,h4,.inr ⟨_,_,rfl⟩⟩
def StN(W:World)(base:Nat)(oa:Option Addr)(oc:Nat)(st:List Nat):Prop:=Stk W base oa oc (ints st).reverse
theorem Qb3:∀{l:List Int},(∀x∈l,0≤x)→ints (l.map Int.toNat)=l
 | [],_=>rfl
 |x :: l,h=>by
  have h1:=h x (List.mem_cons_self ..);have h2:=Qb3 (l:=l) (fun y hy=>h y (List.mem_cons_of_mem _ hy));unfold ints at h2 ⊢;rw[List.map_cons,List.map_cons,h2,Int.toNat_of_nonneg h1]
theorem Qff{s:SpS}{n:Nat}{p:Pg}(h:pageF s.dv.blocks (s.dv.last n)=some p):ints (kidsOf s.dv n)=p.kids∧(kidsOf s.dv n).length=p.kids.length:=by
 have e:kidsOf s.dv n=p.kids.map Int.toNat:=by unfold kidsOf;rw[h]
 rw[e];exact⟨Qb3 (fun x hx=>by have:=Qdj h x hx;omega),by rw[List.length_map]⟩
structure PgI (s:SpS) (bs sg:Nat) (w0:World) (M M0:Nat) (L:List Nat) (J:Nat→World→Prop) (B gh k:Nat) (seen st:List Nat) (oa:Option Addr) (oc:Nat) (wr:World):Prop where
 stk:StN wr B oa oc st
 vis:Vis (kidsOf s.dv) M0 gh seen st (L.drop k)
 kL:k≤L.length
 cnt:seen.length+gh≤M+1
 nums:∀n∈st,n<4294967296
 map:SeenM wr B seen
 j:J k wr
 g0:w0.grownBy wr none
 box:Boxed wr bs 24 (.pointer (some ⟨sg,0,none⟩))
 size:B<wr.heap.size
section
variable {s : SpS} {bs sg : Nat} {w0 : World} {M M0 : Nat} {L : List Nat} {J : Nat → World → Prop} {B gh k : Nat} {seen st : List Nat} {oa : Option Addr} {oc : Nat} {wr wr' : World}
theorem PgI.go(hJ:∀k X Y,J k X→Turn X Y (ItsT B X)→J k Y)(h:PgI s bs sg w0 M M0 L J B gh k seen st oa oc wr)(g:wr.grownBy wr' none):PgI s bs sg w0 M M0 L J B gh k seen st oa oc wr':=
 ⟨Qa4 h.stk (Qc g) (fun _ _=>id),h.vis,h.kL,h.cnt,h.nums,QbI h.map ((Qc g).block B h.size id),hJ _ _ _ h.j (Turn.Qf g (fun _ e=>by cases e)),Qa h.g0 g,Qd h.box g,Nat.lt_of_lt_of_le h.size g.size⟩
theorem Qd1(n:Nat)(st:List Nat):(ints (n :: st)).reverse=(ints st).reverse++[(n:Int)]:=by unfold ints;rw[List.map_cons,List.reverse_cons]
theorem PgI.old{n:Nat}(h:PgI s bs sg w0 M M0 L J B (gh+1) k seen (n :: st) oa oc wr)(v:Vis (kidsOf s.dv) M0 gh seen st (L.drop k)):PgI s bs sg w0 M M0 L J B gh k seen st oa oc wr:=
 ⟨by have:=h.stk;unfold StN at this;rw[Qd1]at this;exact QeX this,v,h.kL,by have:=h.cnt;omega,fun x hx=>h.nums x (List.mem_cons_of_mem _ hx),h.map,h.j,h.g0,h.box,h.size⟩
theorem PgI.top{n:Nat}(h:PgI s bs sg w0 M M0 L J B gh k seen (n :: st) oa oc wr):∃gA oA,oa=some ⟨gA,oA,none⟩∧wr.cell? ⟨gA,oA+st.length,none⟩=some (.int .u32 (n:Int))∧st.length+1≤oc:=by
 have h1:=h.stk;unfold StN at h1;rw[Qd1]at h1;have hl:((ints st).reverse++[(n:Int)]).length=st.length+1:=by unfold ints;simp
 have hseg:=QhB h1;rw[hl]at hseg;obtain⟨gA,oA,e,hc⟩:=hseg.addr (by omega);refine⟨gA,oA,e,?_,hseg.le⟩;rw[hc st.length (by omega)];have hl2:(ints st).reverse.length=st.length:=by unfold ints;simp
 rw[List.getD_eq_getElem?_getD,List.getElem?_append_right (by omega),hl2,Nat.sub_self]
 rfl
end
theorem Qft(oa:Option Addr)(oc:Nat)(st:List Nat)(base:Nat)(pa:Option Addr)(c:Nat)(l:List Nat)(w:World)(hst:StN w base oa oc st)(hb:base≤w.heap.size)(hs:Ws.Seg w pa l.length c (ints l))(hne:∀ad,pa=some ad→0<l.length→¬blkO oa ad.block)(hsz:st.length+l.length≤1000000000) :
  Calls Tryz.prog 139 #[.slice oa st.length oc,.slice pa l.length c] w fun e w'=>∃oa' oc',e=.returned (.slice oa' (l++st).length oc')∧StN w' base oa' oc' (l++st)∧Turn w w' (blkO oa):=by
 have h1:((ints st).reverse).length=st.length:=by unfold ints;simp
 have h2:(ints l).length=l.length:=by unfold ints;simp
 have h:=Qik oa oc (ints st).reverse base pa l.length c (ints l) w hst hb hs hne (by rw[h1];exact hsz);rw[h1,h2]at h;refine h.mono ?_;rintro e w' ⟨oa',oc',e1,e2,e3,-⟩;refine⟨oa',oc',by rw[e1,List.length_append,Nat.add_comm],?_,e3⟩;unfold StN;have e4:(ints (l++st)).reverse=(ints st).reverse++(ints l).reverse:=by unfold ints;rw[List.map_append,List.reverse_append]
 rw[e4];exact e2
theorem QkD(m:Nat)(hm:1≤m)(y:Nat)(S:Nat→Prop)(br bs:Nat)(w0:World)(w1:World)(sg g:Nat)(A:Nat→Prop)(s:SpS)(ra:Option Addr)(rc:Nat)(own:List Nat)(M M0:Nat)(L:List Nat)(J:Nat→World→Prop)(W:World)
  (hsh:Sh w1 w0 sg g A s) (hpg:s.sup.pages.length≤100000) (hr:Ws.Seg w0 ra own.length rc (ints own)) (hg0:w0.grownBy W none)
  (hS:∀i,S i→w0.heap.size≤i∧i<W.heap.size∧i≠bs)
  (hbr:W.cell? ⟨br,0,none⟩=some (.slice ra own.length rc)) (hbs:Boxed W bs 24 (.pointer (some ⟨sg,0,none⟩)))
  (hv:Vis (kidsOf s.dv) M0 M [0] own L) (hM:M≤1000000000∧M0≤1000000000) (hL:∀n∈L,getErr s n=0∧n<4294967296) (hown:∀n∈own,n<4294967296) (hkd:∀n,∀k∈kidsOf s.dv n,k<4294967296)
  (hJ:∀k X Y,J k X→Turn X Y (ItsT W.heap.size X)→J k Y)
  (hY:∀k args W1,k<L.length→J k W1→EP s L W.heap.size k args W1→YieldAt Fence.wide (m-1) Tryz.prog y args W1 fun x W'=>x=.returned (.bool true)∧J (k+1) W'∧KpS S w0.heap.size W.heap.size W1 W') (h0:J 0 W) :
  CallsIn Fence.wide m Tryz.prog 138 #[.func (.yield y) #[] #[],.pointer (some ⟨br,0,none⟩),.pointer (some ⟨bs,0,none⟩)] W fun e W'=>(∃z,e=.returned z)∧J L.length W':=by
 have hmm:=@run_makeMap Tryz.prog;obtain⟨W2,hmu0,hs2,hg2,-⟩:=QgF (QkR W) 0 (by omega) (by unfold maxLen;simp);have hmu:(Instr.mapUpdate 212 (.map (some W.heap.size)) (.int .u32 0) (.agg #[])).run Tryz.prog (W.alloc (.map #[] 0))=.ok () W2:=hmu0;have hT2:Turn W W2 (fun i=>i=W.heap.size):=(Turn.alloc W _ _).trans (Turn.Qf hg2 (fun i e _=>by cases e;rfl)) (fun i _ e=>e);have hz2:W.heap.size+1≤W2.heap.size:=by have:=hg2.size;rw[World.size_alloc]at this;exact this
 have hgr2:W.grownBy W2 none:=⟨hT2.os,hT2.tape,hT2.output,hT2.size,fun i hi _=>hT2.block i hi (fun e=>by omega)⟩;have hp2:=Qft none 0 [] W.heap.size ra rc own W2 (World.ownsRow_nil _ _ _ _) (by omega) ((hr.grown hg0).grown hgr2) (fun ad _ _ e=>by obtain⟨_,e,_⟩:=e;cases e) (by have:=hv.len;simp;omega);have hb2:W2.cell? ⟨br,0,none⟩=some (.slice ra own.length rc):=(Qc hgr2).cell hbr id;have HP2:=hid hp2;have HGR2:=hid hgr2;have HS2:=hid hs2;have HZ2:=hid hz2;have HT2:=hid hT2;clear hmu0 hs2 hg2 hT2 hz2 hgr2 hp2 hbr;have HSH:=hid hsh;have HR:=hid hr;have HG0:=hid hg0;have HSS:=hid hS;have HBS:=hid hbs;have HV:=hid hv;have HL:=hid hL;have HOW:=hid hown;have HKD:=hid hkd;have HJ:=hid hJ;have HY:=hid hY;have H0:=hid h0;have HPG:=hid hpg;clear hsh hr hg0 hS hbs hv hL hown hkd hJ hY h0 hpg;refine callsIn_of_wp Tryz.func138 rfl trivial ?_ rfl;simp only[Tryz.ntmps138,List.size_toArray,List.length_cons,List.length_nil,Nat.reduceAdd,Nat.reduceSub,Array.replicate_succ,Array.replicate_zero,List.push_toArray,List.append_toArray,List.nil_append,List.cons_append];refine wpIn_wide.2 ?_;go_wp2_with fail
 go_wp2_with fail
 refine HP2.out.mono ?_;rintro e W3 ⟨oa3,oc3,rfl,hst3,ht3⟩;have HI0:Hid (PgI s bs sg w0 M M0 L (J) W.heap.size M 0 [0] own oa3 oc3 W3):=hid (by
  have ht30:W2.grownBy W3 none:=⟨ht3.os,ht3.tape,ht3.output,ht3.size,fun i hi _=>ht3.block i hi (fun e=>by obtain⟨ad,e,_⟩:=e;cases e)⟩;rw[List.append_nil]at hst3;refine⟨hst3,HV.out,Nat.zero_le _,(show 1+M≤M+1 by omega),HOW.out,QbI HS2.out ((Qc ht30).block _ (by have:=HZ2.out;omega) id),?_,Qa HG0.out (Qa HGR2.out ht30),Qd (Qd HBS.out HGR2.out) ht30,Nat.lt_of_lt_of_le HZ2.out ht30.size⟩;exact HJ.out _ _ _ (HJ.out _ _ _ H0.out (Turn.Qf HGR2.out (fun _ e=>by cases e))) (Turn.Qf ht30 (fun _ e=>by cases e)))
 rw[List.append_nil]at hst3 ⊢;clear hst3 ht3 hb2 hmu hmm HP2 HGR2 HS2 HZ2 HT2 H0;dsimp only;go_wp2
 go_loopg [5] M (fun gh so wr=>∃(k n1:Nat) (seen st:List Nat) (oa:Option Addr) (oc:Nat),so=.slice oa n1 oc∧Hid (n1=st.length)∧Hid (PgI s bs sg w0 M M0 L J W.heap.size gh k seen st oa oc wr))
 case atStart=>exact⟨0,_,[0],own,oa3,oc3,rfl,hid rfl,HI0⟩
 case round=>
  clear HI0;obtain⟨k,n1,seen,st,oa,oc,rfl,HN1,HP⟩:=hrel;cases st with
  |nil=>
   obtain rfl:n1=0:=HN1.out;have HJE:Hid (J L.length wr):=hid (by
    have h1:=HP.out.vis.nil;have h2:=congrArg List.length h1;rw[List.length_drop]at h2;have h3:=HP.out.kL;have h4:([]:List Nat).length=0:=rfl;have h5:k=L.length:=by omega
    rw[←h5];exact HP.out.j)
   go_wp2
   go_end0
   exact⟨⟨_,rfl⟩,HJE.out⟩
  |cons n st=>
   obtain⟨gk',rfl,hvis⟩:=HP.out.vis.step;obtain⟨gA,oA,rfl,c1,hoc⟩:=HP.out.top;obtain⟨q,hq⟩:∃q,st.length=q:=⟨_,rfl⟩;have hn1:n1=q+1:=by have:=HN1.out;rw[List.length_cons]at this;omega
   rw[hq]at c1 hoc;have hq9:q≤1000000000:=by have:=HP.out.vis.len;rw[List.length_cons]at this;omega
   have e1:(n1:Int)-1=(q:Int):=by omega
   have e2:IntKind.i64.wrap (q:Int)=(q:Int):=IntWalk.i64_in _ (by omega);have p0:decide ((0:Int)<(n1:Int))=true:=decide_eq_true (by omega);have p1:(q:Int)<(n1:Int):=by omega
   have p2:(0:Int)≤(q:Int):=by omega
   have p3:(q:Int)≤(oc:Int):=by omega
   have hn4:n<4294967296:=HP.out.nums n (List.mem_cons_self ..);have hlk:=QjA HP.out.map n hn4;have HQ:=hid hq;have HN4:=hid hn4;clear hq hn1 hoc hn4;by_cases hm:n∈seen
   ·rw[decide_eq_true hm]at hlk;have HV2:Hid (Vis (kidsOf s.dv) M0 gk' seen st (L.drop k)):=hid (by
     rcases hvis with ⟨-,v⟩|⟨v,-⟩
     ·exact v
     ·exact absurd hm v)
    have HP2:=hid ((HP.out.old HV2.out).go HJ.out (Qb wr (.cells #[] 211)));clear hm hvis;go_wp2
    go_roundg gk'
    case rel=>exact⟨k,_,seen,st,_,oc,rfl,hid HQ.out.symm,HP2⟩
    case measure=>omega
   ·rw[decide_eq_false hm]at hlk;obtain⟨L',hL',hv2⟩:∃L',L.drop k=n :: L'∧Vis (kidsOf s.dv) M0 gk' (n :: seen) (kidsOf s.dv n++st) L':=by
     rcases hvis with ⟨v,-⟩|⟨-,v⟩
     ·exact absurd v hm
     ·exact v
    have HL':=hid hL';have HV2:=hid hv2;clear hm hvis hL' hv2;go_upto_region 7 with fail
    obtain⟨V1,hV1⟩:∃X,wr.alloc (.cells #[] 211)=X:=⟨_,rfl⟩;have HP1:=hid (HP.out.go HJ.out (Qb wr (.cells #[] 211)));rw[hV1]at HP1 ⊢;obtain⟨V2,hmu2,hs2,hg2,hnc2⟩:=QgF HP1.out.map n HN4.out (by have:=HP1.out.cnt;unfold maxLen;omega);have HT2:Hid (Turn V1 V2 (fun i=>i=W.heap.size)):=hid (Turn.Qf hg2 (fun i e _=>by cases e;rfl));have HJ2:Hid (J k V2):=hid (HJ.out _ _ _ HP1.out.j (HT2.out.mono (fun i _ e=>by subst e;obtain⟨o,o1,o2⟩:=hnc2;exact⟨Nat.le_refl _,o,o1,.inl o2⟩)));have HG2:Hid (w0.grownBy V2 none):=hid ⟨HT2.out.os.trans HP1.out.g0.os,HT2.out.tape.trans HP1.out.g0.tape,HT2.out.output.trans HP1.out.g0.output,Nat.le_trans HP1.out.g0.size HT2.out.size,fun i hi _=>(HT2.out.block i (Nat.lt_of_lt_of_le hi HP1.out.g0.size) (fun e=>by have:=HG0.out.size;omega)).trans (HP1.out.g0.block i hi (by simp))⟩;have HB2:Hid (Boxed V2 bs 24 (.pointer (some ⟨sg,0,none⟩))):=hid (Qk HP1.out.box HT2.out (fun e=>by have:=HBS.out.lt;omega));have HST2:Hid (StN V2 W.heap.size (some ⟨gA,oA,none⟩) oc st):=hid (by
     have h1:=HP1.out.stk;unfold StN at h1;rw[Qd1]at h1;refine Qa4 (QeX h1) HT2.out (fun i hi e=>?_);subst e;obtain⟨o,o1,o2⟩:=Qbh (QeX h1) hi;obtain⟨o',o3,o4⟩:=hnc2;rw[o1]at o3;cases o3
     rw[o2]at o4;cases o4)
    have HSN2:=hid hs2;have HGE:=hid (QgG (HSH.out.go HG2.out) HPG.out n HN4.out);have b2:=HB2.out.cell;clear hs2 hg2 hnc2 hV1 c1 hlk;go_wp2_with fail
    refine HGE.out.mono ?_;rintro e V3 ⟨hg3,hx3⟩;have HLE:=hid (HL.out n (by have h1:n∈L.drop k:=(by rw[HL'.out];exact List.mem_cons_self ..);exact List.mem_of_mem_drop h1));rcases hx3 with ⟨hx3,-⟩|⟨p,a,c,-,hp,rfl,hsg3,hnw3⟩
    ·exact absurd HLE.out.1 hx3
    have HG3:=hid hg3;have HPP:=hid hp;have HSG3:=hid hsg3;have HNW3:=hid hnw3;have hlen:=hsg3.len;unfold pgV;obtain⟨z,hz⟩:∃z,p.kids.length=z:=⟨_,rfl⟩;obtain⟨T,hT⟩:∃T,strOfNums p.data=T:=⟨_,rfl⟩;rw[hz,hT];have HZ:=hid hz;have HTT:=hid hT;clear hg3 hp hsg3 hnw3 hlen hz hT hmu2;dsimp only;go_upto_region 9 with fail
    obtain⟨V4,hV4⟩:∃X,V3.alloc (.cells #[.int .u8 p.tag,.slice a z c,.string T] 41)=X:=⟨_,rfl⟩;have hpc:=heap_alloc_new V3 (.cells #[.int .u8 p.tag,.slice a z c,.string T] 41);have hg4:=Qb V3 (.cells #[.int .u8 p.tag,.slice a z c,.string T] 41);rw[hV4]at hpc hg4 ⊢;have HPC:=hid hpc;have HG4:=hid (Qa HG3.out hg4);obtain⟨d0,d1,d2⟩:=Qbs hpc;have HJ4:Hid (J k V4):=hid (HJ.out _ _ _ HJ2.out (Turn.Qf HG4.out (fun _ e=>by cases e)));have hkL:k<L.length:=by
     have h1:=congrArg List.length HL'.out;rw[List.length_drop,List.length_cons]at h1;omega
    have hLn:L.getD k 0=n∧L.drop (k+1)=L':=by
     have h1:=HL'.out;rw[List.drop_eq_getElem_cons hkL]at h1
     injection h1 with h1 h2
     exact⟨by rw[List.getD_eq_getElem?_getD,List.getElem?_eq_getElem hkL,h1];rfl,h2⟩
    have hW2:W.heap.size<V2.heap.size:=QcB HSN2.out;obtain⟨fn,tmps,assign,body,hy,hR⟩:=HY.out k #[.agg #[.int .u8 p.tag,.slice a z c,.string T],.int .i64 0] V4 hkL HJ4.out ⟨p,a,c,by rw[hLn.1];exact HPP.out,by unfold pgV;rw[HZ.out,HTT.out],HSG3.out.grown hg4,fun ad e=>by have:=HNW3.out ad e;omega⟩;have HLN:=hid hLn;have HKL2:=hid hkL;have HW2:=hid hW2;have HS4:Hid (V2.heap.size≤V3.heap.size):=hid HG3.out.size;have HV4:=hid hV4;clear hpc hg4 hV4 hkL hLn hW2 b2;refine(wpIn_wide (n:=m)).1 ?_
    gi_wp2
    refine hR.mono ?_;rintro e V5 ⟨rfl,hJ5,hk5⟩;have hpc5:=hk5.cells HPC.out rfl (fun e=>by have:=(HSS.out _ e).2.1;have:=HW2.out;have:=HS4.out;omega);obtain⟨f0,f1,f2⟩:=Qbs hpc5;have hst5:StN V5 W.heap.size (some ⟨gA,oA,none⟩) oc st:=by
     have h4:=Qa4 HST2.out (Qc HG4.out) (fun _ _=>id);refine Qa4 h4 hk5 (fun i hi e=>?_);rcases e with e|⟨-,o,e2,e3⟩
     ·have:=(HSS.out _ e).2.1;have:=(QcC h4 hi).1;omega
     ·obtain⟨o',o1,o2⟩:=Qbh h4 hi;rw[o1]at e2;cases e2
      rw[o2]at e3;cases e3
    have hsn5:SeenM V5 W.heap.size (n :: seen):=by
     have h4:=QbI HSN2.out ((Qc HG4.out).block _ HW2.out id);refine QbI h4 (Turn.block hk5 _ (QcB h4) (fun e=>?_));rcases e with e|⟨e,-⟩
     ·have:=(HSS.out _ e).2.1;omega
     ·omega
    have hg5:w0.grownBy V5 none:=hk5.grown (fun i e=>(HSS.out i e).1) (Qa HG2.out HG4.out);have hb5:Boxed V5 bs 24 (.pointer (some ⟨sg,0,none⟩)):=hk5.cells (Qd HB2.out HG4.out) rfl (fun e=>(HSS.out _ e).2.2 rfl);have hsg5:Ws.Seg V5 a p.kids.length c p.kids:=by
     have h4:=HSG3.out.grown (Qb V3 (.cells #[.int .u8 p.tag,.slice a z c,.string T] 41));rw[HV4.out]at h4;refine⟨h4.len,h4.le,h4.cap,h4.nil_,fun ad had j u hu=>hk5.cell (h4.at_ ad had j u hu) (fun e=>?_)⟩;have h6:=(HSS.out _ e).2.1;rw[block_add]at h6;have:=HNW3.out ad had;have:=HW2.out;omega
    obtain⟨hk1,hk2⟩:=Qff HPP.out;have hlen5:(kidsOf s.dv n++st).length≤1000000000:=by have:=HV2.out.len;omega
    have hp6:=Qft (some ⟨gA,oA,none⟩) oc st W.heap.size a c (kidsOf s.dv n) V5 hst5 (Nat.le_of_lt (QcB hsn5)) (by rw[hk1,hk2];exact hsg5) (fun ad had _ e=>by
     have h7:=HNW3.out ad had;have h8:=(QcC HST2.out e).2;omega) (by rw[List.length_append]at hlen5;omega)
    rw[hk2,HZ.out,HQ.out]at hp6;have HP6:=hid hp6;have HPG5:=hid (And.intro hst5 (And.intro hsn5 (And.intro hg5 hb5)));have HJ5:=hid hJ5;clear hp6 hst5 hsn5 hg5 hb5 hsg5 hk1 hk2 hlen5 hJ5 hk5 hpc5 hR hy d0 d1 d2
    gi_wp2
    go_wp2_with fail
    refine HP6.out.mono ?_;rintro e V6 ⟨oa6,oc6,rfl,hst6,ht6⟩;obtain⟨i1,i2,i3,i4⟩:=HPG5.out;have HI6:Hid (PgI s bs sg w0 M M0 L J W.heap.size gk' (k+1) (n :: seen) (kidsOf s.dv n++st) oa6 oc6 V6):=hid (by
     refine⟨hst6,by rw[HLN.out.2];exact HV2.out,HKL2.out,by have:=HP.out.cnt;rw[List.length_cons];omega,fun x hx=>?_,QbI i2 (ht6.block _ (QcB i2) (fun e=>?_)),HJ.out _ _ _ HJ5.out (ht6.mono (fun i _ e=>QkW i1 e)),?_,Qk i4 ht6 (fun e=>?_),Nat.lt_of_lt_of_le (QcB i2) ht6.size⟩
     ·rcases List.mem_append.1 hx with e|e
      ·exact HKD.out n x e
      ·exact HP.out.nums x (List.mem_cons_of_mem _ e)
     ·obtain⟨o,o1,o2⟩:=Qbh i1 e;obtain⟨es,clock,hb,-⟩:=i2;rw[hb]at o1;cases o1
      cases o2
     ·exact⟨ht6.os.trans i3.os,ht6.tape.trans i3.tape,ht6.output.trans i3.output,Nat.le_trans i3.size ht6.size,fun i hi _=>(ht6.block i (Nat.lt_of_lt_of_le hi i3.size) (fun e=>by have:=(QcC i1 e).1;have:=HG0.out.size;omega)).trans (i3.block i hi (by simp))⟩
     ·have:=(QcC i1 e).1;have:=HBS.out.lt;omega)
    clear hst6 ht6 i1 i2 i3 i4;dsimp only;obtain⟨z6,hz6⟩:∃z6,(kidsOf s.dv n++st).length=z6:=⟨_,rfl⟩;rw[hz6];have HZ6:=hid hz6.symm;clear hz6;go_wp2
    go_roundg gk'
    case rel=>exact⟨k+1,z6,n :: seen,_,oa6,oc6,rfl,HZ6,HI6⟩
    case measure=>omega
theorem Qg7(m:Nat)(hm:1≤m)(S:Nat→Prop)(br bs:Nat)(w0 w1 w:World)(sg g:Nat)(A:Nat→Prop)(s:SpS)(ra:Option Addr)(rc:Nat)(own:List Nat)(M M0:Nat)(L:List Nat)
  (hsh:Sh w1 w0 sg g A s) (hpg:s.sup.pages.length≤100000) (hr:Ws.Seg w0 ra own.length rc (ints own)) (hg0:w0.grownBy w none)
  (hS:∀i,S i→w0.heap.size≤i∧i<w.heap.size∧i≠bs)
  (hbr:w.cell? ⟨br,0,none⟩=some (.slice ra own.length rc)) (hbs:Boxed w bs 24 (.pointer (some ⟨sg,0,none⟩)))
  (hv:Vis (kidsOf s.dv) M0 M [0] own L) (hM:M≤1000000000∧M0≤1000000000) (hL:∀n∈L,getErr s n=0∧n<4294967296) (hown:∀n∈own,n<4294967296) (hkd:∀n,∀k∈kidsOf s.dv n,k<4294967296) :
  FeedsX Fence.wide m Tryz.prog 138 #[] #[.pointer (some ⟨br,0,none⟩),.pointer (some ⟨bs,0,none⟩)] (EP s L w.heap.size) L.length (KpS S w0.heap.size) ItsT w:=
 fun y J W hW hJ hY h0=>by
  have hg:=below_grown hW;exact QkD m hm y S br bs w0 w1 sg g A s ra rc own M M0 L J W hsh hpg hr (Qa hg0 hg) (fun i e=>⟨(hS i e).1,Nat.lt_of_lt_of_le (hS i e).2.1 hg.size,(hS i e).2.2⟩) ((Qc hg).cell hbr id) (Qd hbs hg) hv hM hL hown hkd hJ
   (fun k args W1 hk j e=>hY k args W1 hk j (by obtain⟨p,a,c,e1,e2,e3,e4⟩:=e;exact⟨p,a,c,e1,e2,e3,fun ad had=>Nat.le_trans hg.size (e4 ad had)⟩)) h0
end Sp
namespace Sp
open Go.RowKit Go.Shelf Bs Dv Gr
open Cf (FeedsX KpS QaG)
attribute [local go_sem] Oper.semAt_some
def encR(R:List Nat)(k:Nat):Array Value:=#[.int .u32 ((R.getD k 0:Nat):Int),.int .i64 0]
def cumK(kids:Nat→List Nat)(L:List Nat)(k:Nat):Nat:=((L.take k).flatMap kids).length
theorem Qj0(kids:Nat→List Nat)(L:List Nat)(k:Nat)(hk:k<L.length):cumK kids L (k+1)=cumK kids L k+(kids (L.getD k 0)).length:=by
 unfold cumK;rw[List.take_succ_eq_append_getElem hk,List.flatMap_append,List.length_append,List.getD_eq_getElem?_getD,List.getElem?_eq_getElem hk];simp
theorem Qlp(kids:Nat→List Nat)(L own:List Nat)(k j:Nat)(hk:k<L.length)(hj:j<(kids (L.getD k 0)).length):cumK kids L k+j<(L.flatMap kids++own).length∧(L.flatMap kids++own).getD (cumK kids L k+j) 0=(kids (L.getD k 0)).getD j 0:=by
 have e:L.flatMap kids++own=(L.take k).flatMap kids++(kids (L.getD k 0)++((L.drop (k+1)).flatMap kids++own)):=by
  conv=>lhs;rw[←List.take_append_drop k L,List.drop_eq_getElem_cons hk]
  rw[List.flatMap_append,List.flatMap_cons,List.getD_eq_getElem?_getD,List.getElem?_eq_getElem hk];simp
 refine⟨?_,?_⟩
 ·rw[e];simp only[List.length_append,cumK];omega
 ·rw[e,List.getD_eq_getElem?_getD,List.getElem?_append_right (by unfold cumK;omega),List.getD_eq_getElem?_getD (l:=kids _)];rw[show cumK kids L k+j-((L.take k).flatMap kids).length=j from by unfold cumK;omega,List.getElem?_append_left hj]
theorem Qb2(l:List Nat)(j:Nat):(ints l).getD j 0=((l.getD j 0:Nat):Int):=by
 unfold ints;rw[List.getD_eq_getElem?_getD,List.getD_eq_getElem?_getD,List.getElem?_map];cases l[j]? <;> rfl
theorem Qi0{B B':Nat}{A:World}{i:Nat}(h:ItsT B' A i)(hB:B≤B'):ItsT B A i:=⟨Nat.le_trans hB h.1,h.2⟩
theorem Qhb{X Y:World}{row:Option Nat}{a:Option Addr}{n c:Nat}{l:List Int}(h:Ws.Seg X a n c l)(hg:X.grownBy Y row)(hr:∀r,row=some r→∃o:Obj,X.heap[r]?=some o∧o.isCells=false):Ws.Seg Y a n c l:=
 ⟨h.len,h.le,h.cap,h.nil_,fun ad had j u hu=>hg.cell (h.at_ ad had j u hu) (fun e=>by
  obtain⟨o,e2,e3⟩:=hr _ e.symm;have h1:=h.at_ ad had j u hu;unfold World.cell? at h1;rw[e2]at h1;cases o <;> simp_all [Obj.isCells])⟩
theorem Qhz{S:Nat→Prop}{B0 B:Nat}{X Y:World}{a:Option Addr}{n c:Nat}{l:List Int}(h:Ws.Seg X a n c l)(k:KpS S B0 B X Y)(hS:∀ad,a=some ad→¬S ad.block):Ws.Seg Y a n c l:=
 ⟨h.len,h.le,h.cap,h.nil_,fun ad had j u hu=>k.cell (h.at_ ad had j u hu) (fun e=>hS ad had (by rw[block_add]at e;exact e))⟩
theorem QgC{P:Program}{l l' n n':Nat}{f:FuncId}{tmps:Array Value}{assign body:Code}{w:World}{R:Ending→World→Prop}(h:RoundIn Fence.wide n P l' f tmps assign body w R):RoundIn (Fence.wide.inRound l) n' P l' f tmps assign body w R:=
 ⟨trivial,fun c cs _=>h.2 c cs (room_wide _)⟩
def SCells(S:Nat→Prop)(V:World):Prop:=∀i,S i→∀o,V.heap[i]?=some o→o.isCells=true
theorem SCells.stay{S:Nat→Prop}{X Y:World}(h:SCells S X){T:Nat→Prop}(t:Turn X Y T)(hT:∀i,S i→i<X.heap.size∧¬T i):SCells S Y:=fun i hi o ho=>h i hi o (by rw[←t.block i (hT i hi).1 (hT i hi).2];exact ho)
structure RfI (S:Nat→Prop) (J:Nat→World→Prop) (w0 W:World) (kids:Nat→List Nat) (L:List Nat) (y yb rb:Nat) (ra:Option Addr) (n rc:Nat) (k:Nat) (V:World):Prop where
 j:J (cumK kids L k) V
 g0:w0.grownBy V none
 yb:Boxed V yb 182 (.func (.yield y) #[] #[])
 rb:Boxed V rb 39 (.slice ra n rc)
 big:W.heap.size≤V.heap.size
 sc:SCells S V
def RfMid(s:SpS)(W:World)(L:List Nat)(f:Value→Value→Act)(a':Act)(k:Nat)(V:World):Prop:=
 ∃p a c pc,pageF s.dv.blocks (s.dv.last (L.getD k 0))=some p∧a'=f (.agg (pgV p a p.kids.length c)) (.pointer (some ⟨pc,0,none⟩))∧V.heap[pc]?=some (.cells #[.int .u8 p.tag,.slice a p.kids.length c,.string (strOfNums p.data)] 41 (0,0))∧Ws.Seg V a p.kids.length c p.kids∧W.heap.size≤pc∧∀ad,a=some ad→W.heap.size≤ad.block
theorem QlQ(m:Nat)(hm:3≤m)(y:Nat)(S:Nat→Prop)(br bs:Nat)(w0 w1 W:World)(sg g:Nat)(A:Nat→Prop)(s:SpS)(ra:Option Addr)(rc:Nat)(own:List Nat)(M M0:Nat)(L:List Nat)(J:Nat→World→Prop)
  (hsh:Sh w1 w0 sg g A s) (hpg:s.sup.pages.length≤100000) (hr:Ws.Seg w0 ra own.length rc (ints own)) (hg0:w0.grownBy W none)
  (hS:∀i,S i→w0.heap.size≤i∧i<W.heap.size) (hSb:¬S bs∧¬S br) (hSc:SCells S W)
  (hbr:Boxed W br 39 (.slice ra own.length rc)) (hbs:Boxed W bs 24 (.pointer (some ⟨sg,0,none⟩)))
  (hv:Vis (kidsOf s.dv) M0 M [0] own L) (hM:M≤1000000000∧M0≤1000000000) (hL:∀n∈L,getErr s n=0∧n<4294967296) (hown:∀n∈own,n<4294967296∧n≠0) (hkd:∀n,∀k∈kidsOf s.dv n,k<4294967296)
  (hJ:∀k X Y,J k X→Turn X Y (ItsT W.heap.size X)→J k Y)
  (hY:∀k args W1,k<(L.flatMap (kidsOf s.dv)++own).length→J k W1→args=encR (L.flatMap (kidsOf s.dv)++own) k→YieldAt Fence.wide (m-1) Tryz.prog y args W1 fun x W'=>x=.returned (.bool true)∧J (k+1) W'∧KpS S w0.heap.size W.heap.size W1 W'∧(SCells S W1→SCells S W')) (h0:J 0 W) :
  CallsIn Fence.wide m Tryz.prog 117 #[.func (.yield y) #[] #[],.pointer (some ⟨bs,0,none⟩),.pointer (some ⟨br,0,none⟩)] W fun e W'=>(∃z,e=.returned z)∧J (L.flatMap (kidsOf s.dv)++own).length W':=by
 have hmf:∀(fn:Fn) (first cap:Array Value) (w:World),(Instr.makeFunc fn first cap).run Tryz.prog w=.ok (.func fn first cap) w:=fun _ _ _ _=>rfl
 have HPC:=hid (fun V=>Qjo sg ra own.length rc V);have HSH:=hid hsh;have HPG:=hid hpg;have HR:=hid hr;have HG0:=hid hg0;have HSS:=hid hS;have HSB:=hid hSb;have HSC:=hid hSc;have HBR:=hid hbr;have HBS:=hid hbs;have HV:=hid hv;have HL:=hid hL;have HOW:=hid hown;have HKD:=hid hkd;have HJ:=hid hJ;have HY:=hid hY;have H0:=hid h0;obtain⟨W1,hW1⟩:∃X,W.alloc (.cells #[.func (.yield y) #[] #[]] 182)=X:=⟨_,rfl⟩;have hg1:=Qb W (.cells #[.func (.yield y) #[] #[]] 182);have hb1:=Boxed.new W 182 (.func (.yield y) #[] #[]);rw[hW1]at hg1 hb1;have c1:=(Qd hbr hg1);have c2:=(Qd hbs hg1);have d1:=Boxed.cell c1;have d2:=Boxed.cell c2;have HG1:=hid hg1;have HB1:=hid hb1;have HW1:=hid hW1;clear hsh hpg hr hg0 hS hSb hSc hbr hbs hv hL hown hkd hJ hY h0 hW1 hg1 hb1 c1 c2;refine callsIn_of_wp_marks Tryz.func117 rfl trivial ?_ rfl;simp only[Tryz.ntmps117,List.size_toArray,List.length_cons,List.length_nil,Nat.reduceAdd,Nat.reduceSub,Array.replicate_succ,Array.replicate_zero,List.push_toArray,List.append_toArray,List.nil_append,List.cons_append];refine wpIn_wide.2 ?_;go_upto_region 1 with fail
 rw[HW1.out];go_wp2_with (first|(go_at_call 118;refine(HPC.out _).mono ?_;rintro e w' ⟨rfl,rfl⟩)|fail)
 obtain⟨W2,hW2⟩:∃X,(W1.alloc (.cells #[.pointer (some ⟨sg,0,none⟩)] 24)).alloc (.cells #[.slice ra own.length rc] 39)=X:=⟨_,rfl⟩;have hg2:W1.grownBy W2 none:=by rw[←hW2];exact Qa (Qb _ _) (Qb _ _)
 have hz1:W1.heap.size=W.heap.size+1:=by rw[←HW1.out];simp
 have hz2:W2.heap.size=W.heap.size+3:=by rw[←hW2];simp[World.size_alloc];omega
 have hx2:Boxed W2 W1.heap.size 24 (.pointer (some ⟨sg,0,none⟩)):=by rw[←hW2];exact(Boxed.new _ _ _).alloc _
 have hy2:Boxed W2 (W1.heap.size+1) 39 (.slice ra own.length rc):=by
  have:=Boxed.new (W1.alloc (.cells #[.pointer (some ⟨sg,0,none⟩)] 24)) 39 (.slice ra own.length rc);rw[World.size_alloc,hW2]at this;exact this
 have hg02:w0.grownBy W2 none:=Qa HG0.out (Qa HG1.out hg2);have HI0:Hid (RfI S J w0 W (kidsOf s.dv) L y W.heap.size br ra own.length rc 0 W2):=hid (by
  refine⟨?_,hg02,Qd HB1.out hg2,Qd (Qd HBR.out HG1.out) hg2,by omega,HSC.out.stay (Qc (Qa HG1.out hg2)) (fun i e=>⟨(HSS.out i e).2,id⟩)⟩;exact HJ.out _ _ _ H0.out (Turn.Qf (Qa HG1.out hg2) (fun _ e=>by cases e)))
 have HPF:=hid (Qg7 2 (by decide) S (W1.heap.size+1) W1.heap.size w0 w1 W2 sg g A s ra rc own M M0 L HSH.out HPG.out HR.out hg02 (fun i e=>⟨(HSS.out i e).1,by have:=(HSS.out i e).2;omega,by have:=(HSS.out i e).2;omega⟩) hy2.cell hx2 HV.out hM HL.out (fun n hn=>(HOW.out n hn).1) HKD.out);rw[hW2];have HZ1:=hid hz1;have HZ2:=hid hz2;have HG02:=hid hg02;clear hW2 hg2 hz1 hz2 hx2 hy2 hg02 d1 d2;refine(wpIn_wide (n:=3)).1 ?_;refine QaG (T:=ItsT) rfl (by decide) (gf:=138) (first:=#[]) (lb:=#[.pointer (some ⟨W1.heap.size+1,0,none⟩),.pointer (some ⟨W1.heap.size,0,none⟩)]) rfl trivial (enters_of Tryz.func138 (by kernel_rfl) rfl)
  (fun _ _ _ e=>e.1) HPF.out (Below.refl _ _) (fun h k=>KpS.t h k) (fun V i o o' q1 q2 q3 q4=>KpS.put V i o o' ⟨by have:=HG02.out.size;omega,q2⟩ q3 q4) (fun k args V e=>by obtain⟨p,a,c,-,rfl,-⟩:=e;rfl)
  (RfI S J w0 W (kidsOf s.dv) L y W.heap.size br ra own.length rc) ?own (fun k X Y hz h t=>?its)
  (RfMid s W L (fun v q=>{ tmps:=#[.func (.yield y) #[] #[],.pointer (some ⟨bs,0,none⟩),.pointer (some ⟨br,0,none⟩),.pointer (some ⟨W.heap.size,0,none⟩),q,.int .i64 0,undef,undef,undef,undef,.pointer (some ⟨sg,0,none⟩),.slice ra own.length rc,.func (.func 138) #[] #[.pointer (some ⟨W1.heap.size+1,0,none⟩),.pointer (some ⟨W1.heap.size,0,none⟩)],v,.int .i64 0,undef,undef,undef,undef,undef,undef,undef,undef,undef,undef,undef,undef,undef,undef,undef,undef,undef,undef,undef,undef,undef,undef,undef,undef,undef,undef,undef,undef,undef,undef,undef,undef],defers:=[] })) ?mid HI0.out ?assign ?body ?done
 case own=>
  rintro k X Y row ⟨q1,q2,q3,q4,q5,q6⟩ hg hr;have hT:Turn X Y (ItsT W.heap.size X):=Turn.Qf hg (fun i e _=>by obtain⟨h1,o,h2,h3⟩:=hr i e;exact⟨by have:=HZ2.out;omega,o,h2,.inl h3⟩);have hcl:∀i (o:Obj),X.heap[i]?=some o→o.isCells=true→Y.heap[i]?=some o:=fun i o h1 h2=>(hg.block i (Array.getElem?_eq_some_iff.1 h1).1 (fun e=>by obtain⟨-,o',h3,h4⟩:=hr i e.symm;rw[h1]at h3;cases h3;rw[h2]at h4;cases h4)).trans h1
  exact⟨HJ.out _ _ _ q1 hT,⟨hT.os.trans q2.os,hT.tape.trans q2.tape,hT.output.trans q2.output,Nat.le_trans q2.size hT.size,fun i hi _=>(hT.block i (Nat.lt_of_lt_of_le hi q2.size) (fun e=>by have:=e.1;have:=HG0.out.size;omega)).trans (q2.block i hi (by simp))⟩,hcl _ _ q3 rfl,hcl _ _ q4 rfl,Nat.le_trans q5 hT.size,q6.stay hT (fun i e=>⟨Nat.lt_of_lt_of_le (HSS.out i e).2 q5,fun z=>by have:=z.1;have:=(HSS.out i e).2;omega⟩)⟩
 case its=>
  obtain⟨q1,q2,q3,q4,q5,q6⟩:=h;have hB:∀i,ItsT (W2.heap.size+2) X i→W2.heap.size+2≤i:=fun i e=>e.1
  have hW:=HZ2.out;have hb:br<W.heap.size:=HBR.out.lt;exact⟨HJ.out _ _ _ q1 (t.mono (fun i _ e=>Qi0 e (by omega))),⟨t.os.trans q2.os,t.tape.trans q2.tape,t.output.trans q2.output,Nat.le_trans q2.size t.size,fun i hi _=>(t.block i (Nat.lt_of_lt_of_le hi q2.size) (fun e=>by have:=hB i e;have:=HG0.out.size;omega)).trans (q2.block i hi (by simp))⟩,Qk q3 t (fun e=>by have:=hB _ e;omega),Qk q4 t (fun e=>by have:=hB _ e;omega),Nat.le_trans q5 t.size,q6.stay t (fun i e=>⟨Nat.lt_of_lt_of_le (HSS.out i e).2 q5,fun z=>by have:=hB _ z;have:=(HSS.out i e).2;omega⟩)⟩
 case mid=>
  rintro a' k X Y row ⟨p,a,c,pc,h1,h2,h3,h4,h5,h6⟩ hg hr;refine⟨p,a,c,pc,h1,h2,(hg.block pc (Array.getElem?_eq_some_iff.1 h3).1 (fun e=>?_)).trans h3,Qhb h4 hg (fun r e=>(hr r e).2),h5,h6⟩;obtain⟨-,o',e1,e2⟩:=hr pc e.symm;rw[h3]at e1;cases e1
  cases e2
 case assign=>
  rintro l k args V K hk hz hI ⟨p,a,c,e1,rfl,e3,e4⟩ hK;unfold pgV
  gi_wp2
  have hg:=Qb V (.cells #[.int .u8 p.tag,.slice a p.kids.length c,.string (strOfNums p.data)] 41);have hW:=HZ2.out;obtain⟨q1,q2,q3,q4,q5,q6⟩:=hI;exact hK _ _ ((KeepsOthers.alloc V _).from _) (KpS.of (Turn.alloc V _ (fun _=>False)) (fun _ e=>e.elim)) ⟨HJ.out _ _ _ q1 (Turn.Qf hg (fun _ e=>by cases e)),Qa q2 hg,Qd q3 hg,Qd q4 hg,Nat.le_trans q5 hg.size,q6.stay (Qc hg) (fun i e=>⟨Nat.lt_of_lt_of_le (HSS.out i e).2 q5,id⟩)⟩
   ⟨p,a,c,V.heap.size,e1,rfl,heap_alloc_new V _,e3.grown hg,by omega,fun ad had=>by have:=e4 ad had;omega⟩
 case body=>
  rintro l k a' V hk hz hI ⟨p,a,c,pc,hp,rfl,hpc,hsg,hpB,haB⟩;obtain⟨hk1,hk2⟩:=Qff hp;have hcs:=Qj0 (kidsOf s.dv) L k hk;have hcg:=fun j=>Qlp (kidsOf s.dv) L own k j hk
  rw[hk2]at hcs hcg;obtain⟨z,hzz⟩:∃z,p.kids.length=z:=⟨_,rfl⟩;have hle:=hsg.le;have hcap:=hsg.cap;unfold maxLen at hcap;rw[hzz]at hcs hcg hsg hle;obtain⟨T,hT⟩:∃T,strOfNums p.data=T:=⟨_,rfl⟩;unfold pgV;rw[hzz,hT]at hpc ⊢;obtain⟨d0,d1,d2⟩:=Qbs hpc;obtain⟨q1,q2,q3,q4,q5,q6⟩:=hI;have HJ0:Hid (J (cumK (kidsOf s.dv) L k+0) V):=hid q1;have HQ:=hid (And.intro q2 (And.intro q3 (And.intro q4 q5)));have HCS:=hid hcs;have HCG:=hid hcg;have HK1:=hid hk1;have HSG:=hid hsg;have HAB:=hid haB;have HZV:=hid hz;have HSV:Hid (SCells S V):=hid q6;have HK0:Hid (KpS S w0.heap.size W.heap.size V V):=hid (Turn.refl V _);clear hp hpc hsg hpB haB hk1 hk2 hcs hcg hzz hT q1 q2 q3 q4 q5 q6 hz
  gi_wp2
  gi_loopw [23] (fun si V'=>∃j,j≤z∧si=.int .i64 (j:Int)∧Hid (J (cumK (kidsOf s.dv) L k+j) V')∧Hid (KpS S w0.heap.size W.heap.size V V')∧Hid (SCells S V')) (fun si _=>z-(intOf si).toNat)
  case atStart=>exact⟨0,Nat.zero_le _,rfl,HJ0,HK0,HSV⟩
  case round=>
   clear HJ0 HK0 d0 d1 d2;obtain⟨j,hj,rfl,HJJ,HKK,HSJ⟩:=hrel;by_cases hlt:j<z
   ·obtain⟨hc1,hc2⟩:=HCG.out j hlt;have hs2:=Qhz HSG.out HKK.out (fun ad had e=>by have:=HAB.out ad had;have:=(HSS.out _ e).2;omega);obtain⟨gA,oA,rfl,hc⟩:=hs2.addr (by omega);have e1:=hc j hlt;rw[←HK1.out,Qb2]at e1;have e2:=Boxed.cell (HKK.out.cells HQ.out.2.1 rfl (fun e=>by have:=(HSS.out _ e).2;omega));obtain⟨r,hr⟩:∃r,(kidsOf s.dv (L.getD k 0)).getD j 0=r:=⟨_,rfl⟩;rw[hr]at e1 hc2;obtain⟨fn,tmps,assign,body,hy,hR⟩:=HY.out _ #[.int .u32 (r:Int),.int .i64 0] wr hc1 HJJ.out (by unfold encR;rw[hc2]);have p0:decide ((j:Int)<(z:Int))=true:=decide_eq_true (by omega);have p1:(0:Int)≤(j:Int):=by omega
    have p2:(j:Int)<(z:Int):=by omega
    clear hc hr hc1 hc2 hs2
    gi_wp2
    refine(QgC hR).mono ?_;rintro e V3 ⟨rfl,hJ3,hk3,hs3⟩;have HJ3:=hid hJ3;have HK3:=hid (KpS.t HKK.out hk3);have HS3:=hid (hs3 HSJ.out);clear hJ3 hk3 hs3 hR hy e1 e2
    gi_wp2
    go_roundw
    case rel=>exact⟨j+1,by omega,by go_num,hid (by rw[←Nat.add_assoc];exact HJ3.out),HK3,HS3⟩
    case measure=>simp[intOf];omega
   ·obtain rfl:j=z:=by omega
    have p0:decide ((j:Int)<(j:Int))=false:=decide_eq_false (by omega);have hW:=HZ2.out
    gi_wp2
    obtain⟨q2,q3,q4,q5⟩:=HQ.out;refine⟨HKK.out.keeps (by omega) HSV.out,HKK.out.mono (by omega),?_⟩;rw[←HCS.out]at HJJ;exact⟨HJJ.out,HKK.out.grown (fun i e=>(HSS.out i e).1) q2,HKK.out.cells q3 rfl (fun e=>by have:=(HSS.out _ e).2;omega),HKK.out.cells q4 rfl HSB.out.2,Nat.le_trans q5 (Turn.size HKK.out),HSJ.out⟩
 case done=>
  rintro D V hD ⟨q1,q2,q3,q4,q5,q6⟩ hK;obtain⟨cN,hcN⟩:∃cN,(L.flatMap (kidsOf s.dv)).length=cN:=⟨_,rfl⟩;have hcl:cumK (kidsOf s.dv) L L.length=cN:=by unfold cumK;rw[List.take_length,hcN]
  rw[hcl]at q1;have HJ0:Hid (J (cN+0) V):=hid q1;have c3:=q3.cell;have c4:=q4.cell;have HQ:=hid (And.intro q2 (And.intro q3 (And.intro q4 q5)));have HKD2:=hid hK;have HK0:Hid (KpS S w0.heap.size W.heap.size V V):=hid (Turn.refl V _);have HDW:Hid (W.heap.size≤D):=hid (by have:=HZ2.out;omega);have HCN:=hid hcN;obtain⟨nO,hnO⟩:∃nO,own.length=nO:=⟨_,rfl⟩;have HNO:=hid hnO;have hr2:=HR.out;rw[hnO]at hr2;have hle:=hr2.le;have hcap:=hr2.cap;unfold maxLen at hcap;have HR2:=hid hr2;rw[hnO]at c4 ⊢;clear q1 q2 q3 q4 q5 q6 hK hcl hcN hnO hr2
  gi_wp2
  go_wp2
  go_loopw [34] (fun si V'=>∃j,j≤nO∧si=.int .i64 (j:Int)∧Hid (J (cN+j) V')∧Hid (KpS S w0.heap.size W.heap.size V V')) (fun si _=>nO-(intOf si).toNat)
  case atStart=>exact⟨0,Nat.zero_le _,rfl,HJ0,HK0⟩
  case round=>
   clear HJ0 HK0 c3 c4;obtain⟨j,hj,rfl,HJJ,HKK⟩:=hrel;by_cases hlt:j<nO
   ·have hs2:=Qhz (HR2.out.grown HQ.out.1) HKK.out (fun ad had e=>by
     have h1:=(HSS.out _ e).1;obtain⟨gA,oA,e2,hc⟩:=HR2.out.addr (by omega);rw[had]at e2;cases e2
     have h2:gA<w0.heap.size:=World.block_lt_of_cell? w0 _ (hc 0 (by omega));have h1:w0.heap.size≤gA:=h1;omega)
    obtain⟨gA,oA,rfl,hc⟩:=hs2.addr (by omega);have e1:=hc j hlt;rw[Qb2]at e1;have e2:=Boxed.cell (HKK.out.cells HQ.out.2.1 rfl (fun e=>by have:=(HSS.out _ e).2;omega));obtain⟨r,hr⟩:∃r,own.getD j 0=r:=⟨_,rfl⟩;have hro:r≠0:=by
     rw[←hr,List.getD_eq_getElem?_getD,List.getElem?_eq_getElem (by have:=HNO.out;omega)];exact(HOW.out _ (List.getElem_mem _)).2
    rw[hr]at e1;have hget:(L.flatMap (kidsOf s.dv)++own).getD (cN+j) 0=r:=by
     rw[List.getD_eq_getElem?_getD,List.getElem?_append_right (by have:=HCN.out;omega),HCN.out,Nat.add_sub_cancel_left,←List.getD_eq_getElem?_getD];exact hr
    obtain⟨fn,tmps,assign,body,hy,hR⟩:=HY.out (cN+j) #[.int .u32 (r:Int),.int .i64 0] wr (by rw[List.length_append];have:=HCN.out;have:=HNO.out;omega) HJJ.out (by unfold encR;rw[hget]);have p0:decide ((j:Int)<(nO:Int))=true:=decide_eq_true (by omega);have p1:(0:Int)≤(j:Int):=by omega
    have p2:(j:Int)<(nO:Int):=by omega
    have p3:¬(r:Int)=0:=by omega
    clear hc hr hs2 hro hget;refine(wpIn_wide (n:=m)).1 ?_
    gi_wp2
    refine⟨fun _=>by omega,hR.mono ?_⟩;rintro e V3 ⟨rfl,hJ3,hk3,hs3⟩;have HJ3:=hid hJ3;have HK3:=hid (KpS.t HKK.out hk3);clear hJ3 hk3 hs3 hR hy e1 e2
    gi_wp2
    go_wp2;go_roundw
    case rel=>exact⟨j+1,by omega,by go_num,hid (by rw[←Nat.add_assoc];exact HJ3.out),HK3⟩
    case measure=>simp[intOf];omega
   ·obtain rfl:j=nO:=by omega
    have p0:decide ((j:Int)<(j:Int))=false:=decide_eq_false (by omega);have hKw:wr.heap[D]?=some (.deferred (some [])):=HKK.out.later HKD2.out HDW.out (fun e=>by have:=(HSS.out _ e).2;have:=HDW.out;omega);have HF:Hid (J (L.flatMap (kidsOf s.dv)++own).length (wr.putObj D (.deferred none))):=hid (by
     rw[List.length_append,HCN.out,HNO.out];exact HJ.out _ _ _ HJJ.out (Turn.Qf (grownBy_putObj' wr D (.deferred none)) (fun i e _=>by cases e;exact⟨HDW.out,_,hKw,.inl rfl⟩)))
    have HKW:=hid hKw;clear hKw;go_wp2;refine⟨by simp,.inl ⟨_,_,rfl,run_takeDeferred HKW.out,?_⟩⟩;exact⟨_,results_none rfl _ _ _,⟨_,rfl⟩,HF.out⟩
def KpR(S:Nat→Prop)(B0 B:Nat)(W W':World):Prop:=KpS S B0 B W W'∧(SCells S W→SCells S W')
theorem KpR.t{S:Nat→Prop}{B0 B:Nat}{X Y Z:World}(h:KpR S B0 B X Y)(k:KpR S B0 B Y Z):KpR S B0 B X Z:=⟨KpS.t h.1 k.1,fun e=>k.2 (h.2 e)⟩
theorem Qil(m:Nat)(hm:3≤m)(S:Nat→Prop)(br bs:Nat)(w0 w1 w:World)(sg g:Nat)(A:Nat→Prop)(s:SpS)(ra:Option Addr)(rc:Nat)(own:List Nat)(M M0:Nat)(L:List Nat)
  (hsh:Sh w1 w0 sg g A s) (hpg:s.sup.pages.length≤100000) (hr:Ws.Seg w0 ra own.length rc (ints own)) (hg0:w0.grownBy w none)
  (hS:∀i,S i→w0.heap.size≤i∧i<w.heap.size) (hSb:¬S bs∧¬S br) (hSc:SCells S w)
  (hbr:Boxed w br 39 (.slice ra own.length rc)) (hbs:Boxed w bs 24 (.pointer (some ⟨sg,0,none⟩)))
  (hv:Vis (kidsOf s.dv) M0 M [0] own L) (hM:M≤1000000000∧M0≤1000000000) (hL:∀n∈L,getErr s n=0∧n<4294967296) (hown:∀n∈own,n<4294967296∧n≠0) (hkd:∀n,∀k∈kidsOf s.dv n,k<4294967296) :
  FeedsX Fence.wide m Tryz.prog 117 #[] #[.pointer (some ⟨bs,0,none⟩),.pointer (some ⟨br,0,none⟩)] (fun k args _=>args=encR (L.flatMap (kidsOf s.dv)++own) k) (L.flatMap (kidsOf s.dv)++own).length (KpR S w0.heap.size) ItsT w:=
 fun y J W hW hJ hY h0=>by
  have hg:=below_grown hW;exact QlQ m hm y S br bs w0 w1 W sg g A s ra rc own M M0 L J hsh hpg hr (Qa hg0 hg) (fun i e=>⟨(hS i e).1,Nat.lt_of_lt_of_le (hS i e).2 hg.size⟩) hSb (hSc.stay (Qc hg) (fun i e=>⟨(hS i e).2,id⟩)) (Qd hbr hg) (Qd hbs hg) hv hM hL hown hkd hJ hY h0
end Sp
namespace Sp
open Go.RowKit Go.Shelf Bs Dv Gr
open Cf (FeedsX KpS QaG)
open Cn (CnOk JR)
attribute [local go_sem] Oper.semAt_some
def sup0(K k:Nat):List Int:=(List.range K).map fun(n:Nat)=>if n<k then 1 else 0
def pag0(K:Nat)(pages:List Int)(k:Nat):List Int:=(List.range K).map fun(n:Nat)=>if n<2∨(n:Int)∈pages.take k then 1 else 0
theorem Qhx{f g:Nat→Int}{K x:Nat}{v:Int}(h:∀n,n<K→g n=if n=x then v else f n):((List.range K).map f).set x v=(List.range K).map g:=by
 refine List.ext_getElem? fun n=>?_
 rw[List.getElem?_set,List.getElem?_map,List.getElem?_map,List.length_map,List.length_range];by_cases hn:n<K
 ·rw[List.getElem?_range hn];by_cases e:x=n
  ·subst e;rw[if_pos rfl,if_pos hn,Option.map_some,h x hn,if_pos rfl]
  ·rw[if_neg e,Option.map_some,Option.map_some,h n hn,if_neg (fun q=>e q.symm)]
 ·rw[List.getElem?_eq_none (by rw[List.length_range];omega)];by_cases e:x=n
  ·rw[if_pos e,if_neg (by omega)];rfl
  ·rw[if_neg e];rfl
theorem QjG(K:Nat):sup0 K 0=List.replicate K 0:=by
 unfold sup0;refine List.ext_getElem? fun n=>?_
 rw[List.getElem?_map,List.getElem?_replicate];by_cases hn:n<K
 ·rw[List.getElem?_range hn,if_pos hn];rfl
 ·rw[List.getElem?_eq_none (by rw[List.length_range];omega),if_neg hn];rfl
theorem QkY(K k:Nat):(sup0 K k).length=K:=by unfold sup0;rw[List.length_map,List.length_range]
theorem QkZ(K k:Nat):(sup0 K k).set k 1=sup0 K (k+1):=Qhx (fun n hn=>by
 by_cases e:n=k
 ·rw[if_pos e,if_pos (by omega)]
 ·rw[if_neg e];by_cases h:n<k
  ·rw[if_pos h,if_pos (by omega)]
  ·rw[if_neg h,if_neg (by omega)])
theorem Qjl(K:Nat)(pages:List Int):pag0 K pages 0=sup0 K 2:=by
 unfold pag0 sup0;refine List.map_congr_left fun n _=>?_
 rw[List.take_zero];by_cases h:n<2
 ·rw[if_pos h,if_pos (.inl h)]
 ·rw[if_neg h,if_neg (fun e=>e.elim h (fun z=>by cases z))]
theorem QkC(K:Nat)(pages:List Int)(k p:Nat)(hk:k<pages.length)(hp:pages.getD k 0=(p:Int)):(pag0 K pages k).set p 1=pag0 K pages (k+1):=Qhx (fun n hn=>by
 have e1:pages.take (k+1)=pages.take k++[(p:Int)]:=by
  rw[List.take_succ_eq_append_getElem hk,←hp,List.getD_eq_getElem?_getD,List.getElem?_eq_getElem hk]
  rfl
 rw[e1];by_cases e:n=p
 ·subst e;rw[if_pos rfl,if_pos (.inr (by simp))]
 ·rw[if_neg e];have:(n:Int)∈pages.take k++[(p:Int)]↔(n:Int)∈pages.take k:=by
   rw[List.mem_append,List.mem_singleton];exact⟨fun h=>h.elim id (fun z=>absurd (by omega) e),.inl⟩
  by_cases h:n<2∨(n:Int)∈pages.take k
  ·rw[if_pos h,if_pos (h.imp id this.2)]
  ·rw[if_neg h,if_neg (fun z=>h (z.imp id this.1))])
theorem QkB(K:Nat)(pages:List Int):pag0 K pages pages.length=base0 K pages:=by
 unfold pag0 base0;rw[List.take_length]
theorem Qfd{V:World}{C:Nat}{l:List Int}(h:JR V C l)(hl:0<l.length):SCells (fun i=>i=C) V:=fun i hi o ho=>by
 subst hi;have h1:=(h 0 hl).1;unfold World.cell? at h1;rw[ho]at h1;cases o <;> simp_all [Obj.isCells]
structure WkI (w:World) (C K:Nat) (l:List Int) (V:World):Prop where
 b0:Boxed V w.heap.size 98 (.slice (some ⟨C,0,none⟩) K K)
 b1:Boxed V (w.heap.size+1) 31 (.int .i64 0)
 row:JR V C l
 len:l.length=K
 pos:8≤K
 at_:w.heap.size+2≤C
 gr:w.grownBy V none
theorem WkI.lt{w V:World}{C K:Nat}{l:List Int}(h:WkI w C K l V):C<V.heap.size:=World.block_lt_of_cell? V _ (h.row 0 (by rw[h.len];have:=h.pos;omega)).1
theorem WkI.turn{w V V':World}{C K:Nat}{l:List Int}{S:Nat→Prop}(h:WkI w C K l V)(t:Turn V V' S)(hS:∀i,i<V.heap.size→S i→C<i):WkI w C K l V':=by
 have h1:=h.at_;have h2:=h.lt;have h3:=h.gr.size;exact⟨Qk h.b0 t (fun e=>by have:=hS _ (by omega) e;omega),Qk h.b1 t (fun e=>by have:=hS _ (by omega) e;omega),h.row.turn t (fun e=>by have:=hS _ h2 e;omega),h.len,h.pos,h.at_,⟨t.os.trans h.gr.os,t.tape.trans h.gr.tape,t.output.trans h.gr.output,Nat.le_trans h.gr.size t.size,fun i hi _=>(t.block i (Nat.lt_of_lt_of_le hi h3) (fun e=>by have:=hS i (by omega) e;omega)).trans (h.gr.block i hi (by simp))⟩⟩
theorem WkI.set{w V:World}{C K:Nat}{l:List Int}(h:WkI w C K l V)(k:Nat)(v:Int)(hk:k<K):WkI w C K (l.set k v) (V.setCell ⟨C,k,none⟩ (.int .i64 v)):=by
 have t:Turn V (V.setCell ⟨C,k,none⟩ (.int .i64 v)) (·=C):=Turn.setCell V ⟨C,k,none⟩ _ rfl;have h1:=h.at_;exact⟨Qk h.b0 t (fun e=>by omega),Qk h.b1 t (fun e=>by omega),h.row.set k v (by rw[h.len];exact hk),by rw[List.length_set];exact h.len,h.pos,h.at_,Qh h.gr t (by omega)⟩
theorem WkI.at'{w V:World}{C K:Nat}{l:List Int}(h:WkI w C K l V)(k:Nat)(hk:k<K):V.cell? ⟨C,k,none⟩=some (.int .i64 (l.getD k 0))∧V.frozen? ⟨C,k,none⟩=false:=h.row k (by rw[h.len];exact hk)
theorem QiA{base:List Int}{R:List Nat}{k r K:Nat}(hb:base.length=K)(hR:∀x∈R,x<K)(hk:k<R.length)(hr:R.getD k 0=r):(addsI base (R.take k)).set r ((addsI base (R.take k)).getD r 0+1)=addsI base (R.take (k+1))∧(addsI base (R.take k)).getD r 0≤(addsI base R).getD r 0∧base.getD r 0≤(addsI base (R.take k)).getD r 0∧r<K:=by
 have e:R.take (k+1)=R.take k++[r]:=by
  rw[List.take_succ_eq_append_getElem hk,←hr,List.getD_eq_getElem?_getD,List.getElem?_eq_getElem hk]
  rfl
 have hin:r∈R:=by rw[←hr,List.getD_eq_getElem?_getD,List.getElem?_eq_getElem hk];exact List.getElem_mem hk
 have h1:=QcF (R.take k) base (fun x hx=>by rw[hb];exact hR x (List.mem_of_mem_take hx)) r;have h2:=QcF R base (fun x hx=>by rw[hb];exact hR x hx) r;have h3:(R.take k).count r≤R.count r:=(List.take_sublist k R).count_le r;refine⟨by rw[e,QfG];rfl,by omega,by omega,hR r hin⟩
theorem Qiu{s:SpS}{own hown mown:List Nat}{T:Nat}(hk:SpOk s own hown mown T):∃M L,Vis (kidsOf s.dv) 1000000000 M [0] own L∧M≤1000000000∧(∀n∈L,getErr s n=0∧n<4294967296)∧(∀n∈own,n<4294967296∧n≠0)∧(∀n,∀k∈kidsOf s.dv n,k<4294967296) ∧
  addsI (base0 s.dv.blocks s.sup.pages) (L.flatMap (kidsOf s.dv)++own)=s.now∧(∀r∈L.flatMap (kidsOf s.dv)++own,r<s.dv.blocks)∧s.dv.blocks≤4096∧8≤s.dv.blocks∧∀n,0≤s.now.getD n 0∧s.now.getD n 0≤65535:=by
 have hgeo:=hk.now.cok.geo;have hb:s.dv.blocks≤4096∧8≤s.dv.blocks:=by unfold Su.GeoOk at hgeo;omega
 have hcn:∀n,0≤s.now.getD n 0∧s.now.getD n 0≤65535:=fun n=>by
  by_cases hn:n<s.now.length
  ·rw[List.getD_eq_getElem?_getD,List.getElem?_eq_getElem hn];have:=hk.now.cok.cnt _ (List.getElem_mem hn)
   show 0≤s.now[n]∧s.now[n]≤65535
   omega
  ·rw[List.getD_eq_getElem?_getD,List.getElem?_eq_none (by omega)];exact⟨by decide,by decide⟩
 obtain⟨M,L,hv,hM,hR,hL⟩:=Qmd hk.now.ref (by unfold dOf;rw[if_neg (by omega)]) (M:=1000000000) (B:=65535) (fun n=>by
  unfold dOf;have:=hcn n;by_cases q:2≤n∧(n:Int)∉s.sup.pages
  ·rw[if_pos q];omega
  ·rw[if_neg q];omega) (Nat.le_trans (Nat.mul_le_mul_right _ hb.1) (by decide))
 obtain⟨h1,h2⟩:=hk.now.walked hR;refine⟨M,L,hv,hM,fun n hn=>?_,fun n hn=>?_,fun n k hkk=>?_,h1,fun r hr=>(h2 r hr).2.1,hb.1,hb.2,hcn⟩
 ·have:=hk.now.ref.lt (hL n hn);exact⟨(Qko hk.now (hL n hn)).1,by omega⟩
 ·have:=hk.now.at' hn;omega
 ·unfold kidsOf at hkk;cases hp:pageF s.dv.blocks (s.dv.last n) with
  |none=>rw[hp]at hkk;cases hkk
  |some p=>
   rw[hp]at hkk;obtain⟨x,hx,rfl⟩:=List.mem_map.1 hkk;have:=Qdj hp x hx;omega
theorem Qk8{w1 w:World}{sg g:Nat}{A:Nat→Prop}{s:SpS}{own hown mown:List Nat}{T:Nat}(h:Sh w1 w sg g A s)(hk:SpOk s own hown mown T)(ra:Option Addr)(rc:Nat)(hr:Ws.Seg w ra own.length rc (ints own)) :
  Calls Tryz.prog 48 #[.pointer (some ⟨sg,0,none⟩),.slice ra own.length rc] w fun e w'=>∃C,e=.returned (.tuple #[.slice (some ⟨C,0,none⟩) s.dv.blocks s.dv.blocks,.int .i64 0])∧JR w' C s.now∧w.heap.size≤C∧w.grownBy w' none:=by
 have hmf:∀(fn:Fn) (first cap:Array Value) (w:World),(Instr.makeFunc fn first cap).run Tryz.prog w=.ok (.func fn first cap) w:=fun _ _ _ _=>rfl
 obtain⟨M,L,hv,hM,hL,hown1,hkd,had,hrl,hK,hK8,hcn⟩:=Qiu hk;have hp74:=hk.Qaf;have hpg:=fun p (hp:p∈s.sup.pages)=>hk.page hp
 have HSH:=hid h;obtain⟨x,rfl,rfl,hm,-⟩:=h;have HVA:=hid (fun W c=>Ql x.sg W c);have HRC:=hid (fun V=>QkJ x.sg ra own.length rc V);obtain⟨K,hKK⟩:∃K,s.dv.blocks=K:=⟨_,rfl⟩;rw[hKK]at hpg had hrl hK hK8;have hmk:=Cn.Qet K (by omega);have HMR:=hid (fun W=>Cn.Qfl W K);have HM:=hid hm;have c3:=hm.cells.2.2.2.1;have c5:=hm.cells.2.2.2.2.2.1;have c11:=hm.cells.2.2.2.2.2.2.2.2.2.2.2;rw[hKK]at c3;have HK:=hid hk;have HR:=hid hr;have HV:=hid hv;have HL:=hid hL;have HOW:=hid hown1;have HKD:=hid hkd;have HAD:=hid had;have HRL:=hid hrl;have HCN:=hid hcn;have HPG:=hid hpg;have HPL:Hid (x.np=s.sup.pages.length):=hid hm.pages.len.symm;have HKK:=hid hKK;obtain⟨W1,hW1⟩:∃X,(w.alloc (.cells #[.slice none 0 0] 98)).alloc (.cells #[.int .i64 0] 31)=X:=⟨_,rfl⟩;have hg1:w.grownBy W1 none:=by rw[←hW1];exact Qa (Qb _ _) (Qb _ _)
 have hb0:Boxed W1 w.heap.size 98 (.slice none 0 0):=by rw[←hW1];exact(Boxed.new _ _ _).alloc _
 have hb1:Boxed W1 (w.heap.size+1) 31 (.int .i64 0):=by
  have:=Boxed.new (w.alloc (.cells #[.slice none 0 0] 98)) 31 (.int .i64 0);rw[World.size_alloc,hW1]at this;exact this
 have hz1:W1.heap.size=w.heap.size+2:=by rw[←hW1];simp[World.size_alloc]
 have HW1:=hid hW1;have HG1:=hid hg1;have HB0:=hid hb0;have HB1:=hid hb1;have HZ1:=hid hz1;have d11:=(Qc hg1).cell c11 id;have d3:=(Qc hg1).cell c3 id;have hb9:=hb0.alloc (.cells (Cn.roomJ K) 3);have f0:=hb9.cell;have f1:=hb9.frozen;have HI0:Hid (WkI w W1.heap.size K (sup0 K 0) ((W1.alloc (.cells (Cn.roomJ K) 3)).setCell ⟨w.heap.size,0,none⟩ (.slice (some ⟨W1.heap.size,0,none⟩) K K))):=hid (by
  have t:Turn (W1.alloc (.cells (Cn.roomJ K) 3)) ((W1.alloc (.cells (Cn.roomJ K) 3)).setCell ⟨w.heap.size,0,none⟩ (.slice (some ⟨W1.heap.size,0,none⟩) K K)) (·=w.heap.size):=Turn.setCell _ _ _ rfl;refine⟨hb9.set _,Qk (hb1.alloc _) t (fun e=>by omega),?_,QkY K 0,hK8,by omega,Qh (Qa hg1 (Qb _ _)) t (Nat.le_refl _)⟩;rw[QjG];exact(HMR.out W1).turn t (fun e=>by omega))
 clear hm hk hr hv hL hown1 hkd had hrl hcn hpg hKK hW1 hg1 hb0 hb1 hz1 c11 c3 hb9;refine(callsIn_wide (n:=4)).1 ?_;refine callsIn_of_wp_marks Tryz.func48 rfl trivial ?_ rfl;simp only[Tryz.ntmps48,List.size_toArray,List.length_cons,List.length_nil,Nat.reduceAdd,Nat.reduceSub,Array.replicate_succ,Array.replicate_zero,List.push_toArray,List.append_toArray,List.nil_append,List.cons_append];refine wpIn_wide.2 ?_;go_upto_region 1 with fail
 rw[HW1.out];go_wp2_with (first|(go_at_call 46;refine(HVA.out _ d11).mono ?_;rintro e w' ⟨rfl,rfl⟩)|fail)
 obtain⟨W3,hW3⟩:∃X,(W1.alloc (.cells (Cn.roomJ K) 3)).setCell ⟨w.heap.size,0,none⟩ (.slice (some ⟨W1.heap.size,0,none⟩) K K)=X:=⟨_,rfl⟩;rw[hW3]at HI0 ⊢;obtain⟨C,hC⟩:∃C,W1.heap.size=C:=⟨_,rfl⟩;rw[hC]at HI0 ⊢;clear hW3 hC d11 d3 f0 f1 hmk HMR HW1 HB0 HB1 HZ1 HG1
 go_loopw [21] (fun si V=>∃k:Nat,k≤2∧si=.int .i64 (k:Int)∧Hid (WkI w C K (sup0 K k) V)) (fun si _=>2-(intOf si).toNat)
 case atStart=>exact⟨0,by omega,rfl,HI0⟩
 case round=>
  clear HI0;obtain⟨k,hk2,rfl,HI⟩:=hrel;have e0:=HI.out.b0.cell;by_cases hlt:k<2
  ·have q0:decide ((k:Int)<2)=true:=decide_eq_true (by omega);have p1:(0:Int)≤(k:Int):=by omega
   have p2:(k:Int)<(K:Int):=by omega
   obtain⟨e1,e2⟩:=HI.out.at' k (by omega);have HI2:=hid (HI.out.set k 1 (by omega));rw[QkZ]at HI2;go_wp2;go_roundw
   case rel=>exact⟨k+1,by omega,by go_num,HI2⟩
   case measure=>simp[intOf];omega
  ·obtain rfl:k=2:=by omega
   have q0:decide ((2:Int)<2)=false:=by decide
   have e5:=(HM.out.go HI.out.gr).cells.2.2.2.2.2.1;rw[HPL.out]at e5;obtain⟨np,hnp⟩:∃np,s.sup.pages.length=np:=⟨_,rfl⟩;rw[hnp]at e5;have HNP:=hid hnp;have hnp74:np≤74:=by omega
   rw[←Qjl K s.sup.pages]at HI;clear hnp;go_wp2
   go_loopw [34] (fun si V=>∃j:Nat,j≤np∧si=.int .i64 (j:Int)∧Hid (WkI w C K (pag0 K s.sup.pages j) V)) (fun si _=>np-(intOf si).toNat)
   case atStart=>exact⟨0,by omega,rfl,HI⟩
   case round=>
    clear HI e0 e5;obtain⟨j,hj,rfl,HI⟩:=hrel;have e0:=HI.out.b0.cell;by_cases hlt:j<np
    ·have q1:decide ((j:Int)<(np:Int))=true:=decide_eq_true (by omega);have p1:(0:Int)≤(j:Int):=by omega
     have p2:(j:Int)<(np:Int):=by omega
     have hsg:=(HM.out.go HI.out.gr).pages;rw[HPL.out,HNP.out]at hsg;obtain⟨gA,oA,ea,hc⟩:=hsg.addr (by omega);rw[ea];have e3:=hc j hlt;obtain⟨p,hp⟩:∃p:Nat,s.sup.pages.getD j 0=(p:Int)∧p<K:=by
      have hjl:j<s.sup.pages.length:=by rw[HNP.out];exact hlt
      have h1:=HPG.out _ (List.getElem_mem hjl);refine⟨(s.sup.pages[j]).toNat,?_,by omega⟩;rw[List.getD_eq_getElem?_getD,List.getElem?_eq_getElem hjl]
      show s.sup.pages[j]=_
      omega
     rw[hp.1]at e3;have p3:(0:Int)≤(p:Int):=by omega
     have p4:(p:Int)<(K:Int):=by omega
     obtain⟨e1,e2⟩:=HI.out.at' p hp.2;have HI2:=hid (HI.out.set p 1 hp.2);rw[QkC K s.sup.pages j p (by rw[HNP.out];exact hlt) hp.1]at HI2;clear hp hc hsg ea;go_wp2;go_roundw
     case rel=>exact⟨j+1,by omega,by go_num,HI2⟩
     case measure=>simp[intOf];omega
    ·obtain rfl:j=np:=by omega
     have q1:decide ((j:Int)<(j:Int))=false:=decide_eq_false (by omega);rw[←HNP.out,QkB]at HI;clear hlt hj;go_wp2_with (first|(go_at_call 89;refine(HRC.out _).mono ?_;rintro e w' ⟨rfl,rfl⟩)|fail)
     obtain⟨W4,hW4⟩:∃X,(wr.alloc (.cells #[.pointer (some ⟨x.sg,0,none⟩)] 24)).alloc (.cells #[.slice ra own.length rc] 39)=X:=⟨_,rfl⟩;have hg4:wr.grownBy W4 none:=by rw[←hW4];exact Qa (Qb _ _) (Qb _ _)
     have hz4:W4.heap.size=wr.heap.size+2:=by rw[←hW4];simp[World.size_alloc]
     have hx4:Boxed W4 wr.heap.size 24 (.pointer (some ⟨x.sg,0,none⟩)):=by rw[←hW4];exact(Boxed.new _ _ _).alloc _
     have hy4:Boxed W4 (wr.heap.size+1) 39 (.slice ra own.length rc):=by
      have:=Boxed.new (wr.alloc (.cells #[.pointer (some ⟨x.sg,0,none⟩)] 24)) 39 (.slice ra own.length rc);rw[World.size_alloc,hW4]at this;exact this
     have hI4:WkI w C K (base0 K s.sup.pages) W4:=HI.out.turn (Qc hg4) (fun _ _ e=>e.elim);have hCw:=HI.out.lt;have hCat:=HI.out.at_;have HPF:=hid (Qil 3 (by decide) (fun i=>i=C) (wr.heap.size+1) wr.heap.size w w1 W4 x.sg x.g A s ra rc own M 1000000000 L HSH.out (by omega) HR.out hI4.gr (fun i e=>⟨by omega,by omega⟩) ⟨by omega,by omega⟩ (Qfd hI4.row (by rw[hI4.len];omega)) hy4 hx4 HV.out ⟨hM,Nat.le_refl _⟩ HL.out HOW.out HKD.out);obtain⟨R,hR⟩:∃R,L.flatMap (kidsOf s.dv)++own=R:=⟨_,rfl⟩;rw[hR]at HPF HAD HRL;have HI4:=hid hI4;have HC4:Hid (C<W4.heap.size):=hid hI4.lt;have HZ4:=hid hz4;rw[hW4];clear hW4 hg4 hz4 hx4 hy4 hI4 hCw hCat hR e0 HI HSH HM;refine(wpIn_wide (n:=4)).1 ?_;refine QaG (T:=ItsT) rfl (by decide) (gf:=117) (first:=#[]) (lb:=#[.pointer (some ⟨wr.heap.size,0,none⟩),.pointer (some ⟨wr.heap.size+1,0,none⟩)]) rfl trivial (enters_of Tryz.func117 (by kernel_rfl) rfl)
      (fun _ _ _ e=>e.1) HPF.out (Below.refl _ _) (fun h k=>KpR.t h k) (fun V i o o' q1 q2 q3 q4=>⟨KpS.put V i o o' ⟨by have:=HI4.out.gr.size;omega,q2⟩ q3 q4,fun hs=>hs.stay (S:=fun i=>i=C) (T:=fun j=>j=i) (Turn.Qf (grownBy_putObj' V i o') (fun j e _=>by cases e;rfl)) (fun j e=>by have:=HC4.out;have:=(Array.getElem?_eq_some_iff.1 q3).1;exact⟨by omega,by omega⟩)⟩) (fun k args V e=>by subst e;rfl)
      (fun k V=>WkI w C K (addsI (base0 K s.sup.pages) (R.take k)) V)
      (fun k X Y row h hg hr=>h.turn (Turn.Qf hg (S:=fun i=>W4.heap.size≤i) (fun i e _=>(hr i e).1)) (fun i _ e=>Nat.lt_of_lt_of_le HC4.out e))
      (fun k X Y hz h t=>h.turn t (fun i _ e=>by have h1:=e.1;have h2:=HC4.out;omega))
      (fun a' k _=>a'={ tmps:=#[.pointer (some ⟨x.sg,0,none⟩),.slice ra own.length rc,undef,undef,.pointer (some ⟨w.heap.size,0,none⟩),.pointer (some ⟨w.heap.size+1,0,none⟩),u6,undef,u8,.int .u32 ((R.getD k 0:Nat):Int),.int .i64 0,.pointer (some ⟨x.sg,0,none⟩),.bool true,.bool false,
       .pointer (some ⟨x.sg,0,none⟩),.pointer (some ⟨x.sg,0,none⟩),.pointer (some ⟨x.sg,1,none⟩),.pointer (some ⟨x.sg,2,none⟩),.pointer (some ⟨x.sg,3,none⟩),.int .i64 (K:Int),.slice (some ⟨C,0,none⟩) K K,.int .i64 2,.bool false,u23,u24,u25,u26,u27,
       .pointer (some ⟨x.sg,0,none⟩),.pointer (some ⟨x.sg,0,none⟩),.pointer (some ⟨x.sg,1,none⟩),.pointer (some ⟨x.sg,5,none⟩),.slice x.ap j x.cp,.int .i64 (j:Int),.int .i64 (j:Int),.bool false,u36,u37,u38,u39,u40,u41,.pointer (some ⟨x.sg,0,none⟩),.slice ra own.length rc,
       .func (.func 117) #[] #[.pointer (some ⟨wr.heap.size,0,none⟩),.pointer (some ⟨wr.heap.size+1,0,none⟩)],.int .u32 ((R.getD k 0:Nat):Int),.int .i64 0,undef,undef,undef,undef,undef,undef,undef,undef,undef,undef],defers:=[] }) (fun a'=>fun _ _ _ _ hs _ _=>hs) HI4.out ?assign ?body ?done
     case assign=>
      intro y k args V K2 hk _ hI e hK;subst e;unfold encR;obtain⟨r,hr⟩:∃r,R.getD k 0=r:=⟨_,rfl⟩;rw[hr];have HRR:=hid hr;clear hr
      gi_wp2
      exact hK _ _ (KeepsFrom.refl _ _) ⟨Turn.refl _ _,id⟩ hI (by rw[HRR.out])
     case body=>
      rintro y k a' V hk hz hI rfl;obtain⟨r,hr⟩:∃r,R.getD k 0=r:=⟨_,rfl⟩;obtain⟨s1,s2,s3,s4⟩:=QiA (Qc2 K s.sup.pages) HRL.out hk hr;rw[HAD.out]at s2;have s5:=(HCN.out r).2;have s6:0≤(base0 K s.sup.pages).getD r 0:=by rw[Qe0 _ s4];split <;> omega
      obtain⟨e1,e2⟩:=hI.at' r s4;obtain⟨v,hv⟩:∃v,(addsI (base0 K s.sup.pages) (R.take k)).getD r 0=v:=⟨_,rfl⟩;rw[hv]at s1 s2 s3 e1;have e0:=hI.b0.cell;have e3:IntKind.i64.wrap (v+1)=v+1:=IntWalk.i64_in _ (by omega);have p1:(0:Int)≤(r:Int):=by omega
      have p2:(r:Int)<(K:Int):=by omega
      have HI2:=hid (hI.set r (v+1) s4);rw[s1]at HI2;have HI1:=hid hI;rw[hr];clear hI s1 s2 s3 s5 s6 hv hr hz
      gi_wp2
      have t:Turn V (V.setCell ⟨C,r,none⟩ (.int .i64 (v+1))) (fun i=>i=C):=Turn.setCell V ⟨C,r,none⟩ _ rfl;exact⟨⟨t.size,fun i o hi h1 h2=>(t.block i (Array.getElem?_eq_some_iff.1 h1).1 (fun e=>by have:=HC4.out;omega)).trans h1⟩,⟨KpS.of t (fun _ e=>e),fun _=>Qfd HI2.out.row (by rw[HI2.out.len];omega)⟩,HI2.out⟩
     case done=>
      rintro D V hD hI hK;rw[List.take_of_length_le (Nat.le_refl _),HAD.out]at hI;have e0:=hI.b0.cell;have e1:=hI.b0.frozen;have e2:=hI.b1.frozen;have e3:=hI.b1.cell;have HI1:=hid hI;have HK1:=hid hK;clear hI hK
      gi_wp2
      go_wp2;obtain⟨V2,hV2⟩:∃X,(V.setCell ⟨w.heap.size,0,none⟩ (.slice (some ⟨C,0,none⟩) K K)).setCell ⟨w.heap.size+1,0,none⟩ (.int .i64 0)=X:=⟨_,rfl⟩;have t2:Turn V V2 (fun i=>i=w.heap.size∨i=w.heap.size+1):=by
       rw[←hV2];exact((Turn.setCell V ⟨w.heap.size,0,none⟩ _ (S:=(·=w.heap.size)) rfl).mono (fun i _ e=>.inl e)).trans (Turn.setCell _ ⟨w.heap.size+1,0,none⟩ _ (S:=(·=w.heap.size+1)) rfl) (fun i _ e=>.inr e)
      have r4:V2.cell? ⟨w.heap.size,0,none⟩=some (.slice (some ⟨C,0,none⟩) K K):=by rw[←hV2];exact Boxed.cell ((HI1.out.b0.set (.slice (some ⟨C,0,none⟩) K K)).other (B':=w.heap.size+1) (by omega) (.int .i64 0))
      have r5:V2.cell? ⟨w.heap.size+1,0,none⟩=some (.int .i64 0):=by rw[←hV2];exact Boxed.cell ((HI1.out.b1.other (B':=w.heap.size) (by omega) (.slice (some ⟨C,0,none⟩) K K)).set (.int .i64 0))
      have hat:=HI1.out.at_;have hDw:w.heap.size+2≤D:=by have:=HC4.out;omega
      have hK2:V2.heap[D]?=some (.deferred (some [])):=Qk HK1.out t2 (fun e=>by omega);have hj2:JR V2 C s.now:=HI1.out.row.turn t2 (fun e=>by omega);have hg2:w.grownBy V2 none:=⟨t2.os.trans HI1.out.gr.os,t2.tape.trans HI1.out.gr.tape,t2.output.trans HI1.out.gr.output,Nat.le_trans HI1.out.gr.size t2.size,fun i hi _=>(t2.block i (Nat.lt_of_lt_of_le hi HI1.out.gr.size) (fun e=>by omega)).trans (HI1.out.gr.block i hi (by simp))⟩;rw[hV2];clear hV2;have c4:=cell_kept r4 (grownBy_putObj' V2 D (.deferred none)) (fun r e=>by cases e;exact⟨_,hK2,rfl⟩);have c5:=cell_kept r5 (grownBy_putObj' V2 D (.deferred none)) (fun r e=>by cases e;exact⟨_,hK2,rfl⟩);have t3:Turn V2 (V2.putObj D (.deferred none)) (fun i=>i=D):=Turn.Qf (grownBy_putObj' V2 D (.deferred none)) (fun i e _=>by cases e;rfl);refine⟨by simp,.inl ⟨_,_,rfl,run_takeDeferred hK2,?_⟩⟩;refine⟨.tuple #[.slice (some ⟨C,0,none⟩) K K,.int .i64 0],?_,C,by rw[HKK.out],hj2.turn t3 (fun e=>by have:=HC4.out;omega),by omega,?_⟩
      ·simp[results,Tryz.f48,go_sem,c4,c5]
      ·exact⟨t3.os.trans hg2.os,t3.tape.trans hg2.tape,t3.output.trans hg2.output,Nat.le_trans hg2.size t3.size,fun i hi _=>(t3.block i (Nat.lt_of_lt_of_le hi hg2.size) (fun e=>by omega)).trans (hg2.block i hi (by simp))⟩
end Sp
namespace Sp
open Go.RowKit Bs Dv Gr
open Cn (CnOk JR)
theorem QiO(a0 a1:Option Addr)(n c0 c1:Nat)(l:List Int)(w:World)(h0:Js.Seg w a0 n c0 l)(h1:Js.Seg w a1 n c1 l)(hn:0<n) :
  Calls Tryz.prog 49 #[.slice a0 n c0,.slice a1 n c1] w fun e w'=>e=.returned (.bool true)∧∃m,w'=w.drewN m:=by
 obtain⟨g0,o0,rfl,k0⟩:=h0.addr (by omega);obtain⟨g1,o1,rfl,k1⟩:=h1.addr (by omega);have hm:=h0.cap;have hle:=h0.le;unfold maxLen at hm;have K0:=hid k0;have K1:=hid k1;clear k0 k1 h0 h1;go_enter Tryz.func49,Tryz.ntmps49
 go_wp2
 go_loopw [13] (fun si wr=>∃k m:Nat,k≤n∧si=.int .i64 k∧wr=w.drewN m) (fun si _=>n-(intOf si).toNat)
 case atStart=>exact⟨0,0,Nat.zero_le _,rfl,rfl⟩
 case round=>
  obtain⟨k,m,hk,rfl,rfl⟩:=hrel;by_cases hlt:k<n
  ·have q0:=K0.out k hlt;have q1:=K1.out k hlt;go_wp2
   go_quiet (fail)
   go_wp2;go_roundw
   case rel=>exact⟨k+1,m+nq,by omega,by go_num,by simp⟩
   case measure=>simp[intOf];omega
  ·obtain rfl:k=n:=by omega
   go_wp2;go_ret
   exact⟨rfl,m,rfl⟩
theorem Qce{w1 w:World}{sg g:Nat}{A:Nat→Prop}{s:SpS}{own hown mown:List Nat}{T:Nat}(h:Sh w1 w sg g A s)(hk:SpOk s own hown mown T)(ra:Option Addr)(n rc:Nat)(hn:n=own.length)(hr:Ws.Seg w ra n rc (ints own)) :
  Calls Tryz.prog 20 #[.pointer (some ⟨sg,0,none⟩),.slice ra n rc] w fun e w'=>e=.returned (.int .i64 0)∧w.grownBy w' none:=by
 subst hn;have HWK:=hid (Qk8 h hk ra rc hr);obtain⟨x,rfl,rfl,hm,-⟩:=h;have HM:=hid hm;have hlen:=hk.now.cok.len;have hgeo:=hk.now.cok.geo;obtain⟨K,hK⟩:∃K,s.dv.blocks=K:=⟨_,rfl⟩;have hK8:8≤K∧K≤4096:=by rw[←hK];unfold Su.GeoOk at hgeo;omega
 rw[hK]at HWK hlen;have HLN:=hid hlen;have HKE:=hid hK;obtain⟨nO,hnO⟩:∃nO,own.length=nO:=⟨_,rfl⟩;rw[hnO]at HWK ⊢;clear hm hk hr hlen hgeo hnO hK;go_enter Tryz.func20,Tryz.ntmps20
 go_wp2_with fail
 refine HWK.out.mono ?_;rintro e w2 ⟨C,rfl,hj,hC,hg2⟩;have HJ:=hid hj;have HG2:=hid hg2;have HM2:=hid (HM.out.go hg2);have c8:=HM2.out.cells.2.2.2.2.2.2.2.2.1;have HAL:=hid HM2.out.now.all;rw[HKE.out]at HAL;clear hj hC hg2 HWK;dsimp only;go_wp2_with fail
 refine HAL.out.mono ?_;rintro e w3 ⟨a,rfl,hj3,-,hg3⟩;have hs1:=(HJ.out.turn (Qc hg3) id).seg (by rw[HLN.out];omega);have hs2:=hj3.seg (by rw[HLN.out];omega);rw[HLN.out]at hs1 hs2;have HEQ:=hid (QiO _ _ _ _ _ _ _ hs1 hs2 (by omega));have HG3:=hid (Qa HG2.out hg3);clear hs1 hs2 hj3 hg3 c8;dsimp only;go_wp2_with fail
 refine HEQ.out.mono ?_;rintro e w4 ⟨rfl,m,rfl⟩;have HG4:=hid (Qa HG3.out ((Turn.drewN w3 m nowhere).grown));dsimp only;go_wp2;go_ret
 exact⟨rfl,HG4.out⟩
end Sp
namespace Bl
open Go.RowKit Go.Shelf Go Dv Bs
open Gr Sp
def KpZ(S:Nat→Prop)(B0 B Z:Nat)(W W':World):Prop:=Turn W W' (fun i=>∃o:Obj,W.heap[i]?=some o∧(((S i∨Z≤i)∧o.isCells=true)∨((B0≤i∧i<B)∧o.isCells=false)))
section
variable {S : Nat → Prop} {B0 B Z : Nat} {w W W' : World}
theorem KpZ.t{W1 W2 W3:World}(h:KpZ S B0 B Z W1 W2)(k:KpZ S B0 B Z W2 W3):KpZ S B0 B Z W1 W3:=
 Turn.trans h k (fun i hi e=>by
  obtain⟨o,e2,e3⟩:=e;apply Classical.byContradiction
  intro hn;have h1:=h.block i hi hn;rw[e2]at h1;exact hn ⟨o,h1.symm,e3⟩)
theorem KpZ.put(W:World)(l:Nat)(o o':Obj)(hl:B0≤l∧l<B)(h:W.heap[l]?=some o)(ho:o.isCells=false):KpZ S B0 B Z W (W.putObj l o'):=
 Turn.Qf (grownBy_putObj' W l o') (fun i e _=>by cases e;exact⟨o,h,.inr ⟨hl,ho⟩⟩)
theorem KpZ.of{T:Nat→Prop}(h:Turn W W' T)(hT:∀i,i<W.heap.size→T i→(S i∨Z≤i)∧∃o:Obj,W.heap[i]?=some o∧o.isCells=true):KpZ S B0 B Z W W':=
 h.mono (fun i hi e=>by obtain⟨a,o,b,c⟩:=hT i hi e;exact⟨o,b,.inl ⟨a,c⟩⟩)
theorem KpZ.mono{S2:Nat→Prop}{B2:Nat}(h:KpZ S B0 B Z W W')(hS:∀i,S i→S2 i)(hB:B≤B2):KpZ S2 B0 B2 Z W W':=
 Turn.mono h (fun i _ ⟨o,a,b⟩=>⟨o,a,b.imp (fun⟨c,d⟩=>⟨c.imp (hS i) id,d⟩) (fun⟨c,d⟩=>⟨⟨c.1,by omega⟩,d⟩)⟩)
theorem KpZ.grown (h:KpZ S w.heap.size B Z W W') (hS:∀i,S i→w.heap.size≤i) (hZ:w.heap.size≤Z) (k:w.grownBy W none):w.grownBy W' none:=
  ⟨(Turn.os h).trans k.os,(Turn.tape h).trans k.tape,(Turn.output h).trans k.output,Nat.le_trans k.size (Turn.size h),fun i hi _=>(Turn.block h i (Nat.lt_of_lt_of_le hi k.size) (fun e=>by
    obtain⟨o,-,e|e⟩:=e
    · rcases e.1 with e|e
      · have:=hS i e;omega
      · omega
    · have:=e.1.1;omega)).trans (k.block i hi (by simp))⟩
theorem KpZ.cells(h:KpZ S B0 B Z W W'){i:Nat}{o:Obj}(hi:W.heap[i]?=some o)(ho:o.isCells=true)(hS:¬S i)(hZ:i<Z):W'.heap[i]?=some o:=by
 rw[Turn.block h i (Array.getElem?_eq_some_iff.1 hi).1 (fun e=>?_),hi];obtain⟨o2,e2,e|e⟩:=e
 ·rcases e.1 with e|e
  ·exact hS e
  ·omega
 ·rw[hi]at e2;cases e2
  rw[ho]at e;cases e.2
theorem KpZ.cell(h:KpZ S B0 B Z W W'){p:Addr}{v:Value}(hi:W.cell? p=some v)(hS:¬S p.block)(hZ:p.block<Z):W'.cell? p=some v:=by
 refine Turn.cell h hi (fun e=>?_);obtain⟨o,e2,e|e⟩:=e
 ·rcases e.1 with e|e
  ·exact hS e
  ·omega
 ·unfold World.cell? at hi;rw[e2]at hi;have e3:=e.2;cases o <;> simp_all [Obj.isCells]
theorem KpZ.seg(h:KpZ S B0 B Z W W'){a:Option Addr}{n c:Nat}{l:List Int}(hs:Ws.Seg W a n c l)(hS:∀ad,a=some ad→¬S ad.block∧(0<n→ad.block<Z)):Ws.Seg W' a n c l:=
 ⟨hs.len,hs.le,hs.cap,hs.nil_,fun ad had j u hu=>by
  have hj:0<n:=by
   have h2:=(List.getElem?_eq_some_iff.1 hu).1;rw[List.length_map,hs.len]at h2;omega
  exact h.cell (hs.at_ ad had j u hu) (by rw[block_add];exact(hS ad had).1) (by rw[block_add];exact(hS ad had).2 hj)⟩
theorem KpZ.keeps{B':Nat}(h:KpZ S B0 B Z W W')(hB:B≤B'):KeepsFrom B' W W':=
 ⟨Turn.size h,fun k o hk h1 h2=>by
  rw[Turn.block h k (Array.getElem?_eq_some_iff.1 h1).1 (fun e=>?_),h1];obtain⟨o2,e2,e|e⟩:=e
  ·rw[h1]at e2;cases e2;rw[h2]at e;cases e.2
  ·omega⟩
end
end Bl
end Go.Proofs.YtgffbbdcbkikhaaGreatDoor
