/- Parts of the proof. -/
import Derived.Test.YtgffbbdcbkikhaaGreatDoorKbP
import Derived.Test.YtgffbbdcbkikhaaGreatDoorKbU
set_option maxRecDepth 100000
set_option maxHeartbeats 8000000
open Go.Lib (hid)
namespace Go.Proofs.YtgffbbdcbkikhaaGreatDoor
namespace Cn
open Go.RowKit Bs Dv Gr Dr
theorem QeT{P:Program}(w:World)(t ty e:TypeId)(i:TypeInfo)(ht:P.underlying t=some (.slice e))(hi:P.info? e=some i)(hsize:i.size=1)
  (base g n S:Nat) (xs:List Value) (x:Value) (hown:w.ownsRow base e 1 (.slice (some ⟨g,0,none⟩) n S) n xs) (hroom:n+1≤S) (B c:Nat) (hx:w.cell? ⟨B,0,none⟩=some x) (h1:x.oneCell'=true) :
  ∃w',(Builtin.append_ #[t,t] ty #[.slice (some ⟨g,0,none⟩) n S,.slice (some ⟨B,0,none⟩) 1 c]).run P w=.ok (.slice (some ⟨g,0,none⟩) (n+1) S) w' ∧
   w'.ownsRow base e 1 (.slice (some ⟨g,0,none⟩) (n+1) S) (n+1) (xs++[x])∧w.grownBy w' (some g):=by
 rcases hown.2 with ⟨e1,_⟩|⟨g0,cap,cur,e1,hbg,hg,hnc,hcm,hcs,htake⟩
 ·cases e1
 ·cases e1
  have hcs':cur.size=S:=by simpa using hcs
  have hr:=run_append_room (P:=P) w t ty e i ht hi g n S cur hg ⟨B,0,none⟩ 1 c [x] (by simp[hsize])
   (by
    intro j u hu;cases j with
    |zero=>simp at hu;subst hu;simpa [Addr.add] using hx
    |succ j=>simp at hu) (by intro u hu;simp at hu;subst hu;exact h1) hroom (by simp[hsize];omega)
  refine⟨_,hr,⟨by simp[show xs.length=n by simpa using hown.1],.inr ⟨g,S,_,rfl,hbg,setRow_heap w g cur _ e _ hg,hroom,hcm,?_,?_⟩⟩,⟨rfl,rfl,rfl,by simp[World.setRow],fun k _ hk=>setRow_other w g k _ (fun e=>hk (by rw[e]))⟩⟩
  ·simp only[List.size_toArray,List.length_append,List.length_take,List.length_drop,Array.length_toList,hsize,List.length_singleton];omega
  ·have hx1:xs.length=n:=by simpa using hown.1
   have ht':cur.toList.take n=xs:=by simpa using htake
   simp only[hsize,Nat.mul_one];rw[ht',show n+1=(xs++[x]).length from by simp[hx1]];exact List.take_left
theorem QgQ{w:World}{o:Oper}{a:Act}{K:Act→World→Prop}{Q:Exit→Act→World→Prop}(hgd:o.dst=none)(x y:Operand)(ho:o.op=.store 49 x y)
  (g:Nat) (hx:a.eval x=.pointer (some ⟨g,0,none⟩)) (p:Option Addr) (n c:Nat) (hy:a.eval y=.slice p n c) (u:Value) (hb:Boxed w g 49 u)
  (h:K a (w.setCell ⟨g,0,none⟩ (.slice p n c))):Oper.wp Tryz.prog o a w K Q:=by
 have e:(execOp a.eval o).run Tryz.prog w=.ok .skip (w.setCell ⟨g,0,none⟩ (.slice p n c)):=by
  have c4:=hb.cell;have f4:=hb.frozen;generalize a.eval=ev at hx hy ⊢;simp[go_sem,ho,hx,hy,c4,f4]
 unfold Oper.wp;rw[e]
 show K (a.put o.dst undef) _
 rw[hgd];exact h
theorem QgP{w:World}{o:Oper}{a:Act}{K:Act→World→Prop}{Q:Exit→Act→World→Prop}(s x:Operand)(t:TypeId)(ho:o.op=.call { callee:=.builtin .append,args:=#[s,x],argTypes:=#[t,t] })
  (va vb v:Value) (hs:a.eval s=va) (hx:a.eval x=vb) (w':World) (hrun:(Builtin.append_ #[t,t] o.type #[va,vb]).run Tryz.prog w=.ok v w') (h:K (a.put o.dst v) w'):Oper.wp Tryz.prog o a w K Q:=by
 unfold Oper.wp execOp;simp only[ho,resolve,invoke,builtin,Sem.run_bind,Sem.run_pure,Result.andThen_ok,List.map_toArray,List.map_cons,List.map_nil,hs,hx,hrun];exact h
structure PI (W0:World) (base PB R cap k:Nat) (xs:List Value) (S:ByteArray) (part:Value) (a0:Act) (L:Nat→Bool) (a:Act) (W:World):Prop where
 agr:Agr [25,26,27,28,29] a0 a
 big:31≤a0.tmps.size
 v0:L 0=true→At a 25=.slice (some ⟨R,0,none⟩) k cap
 v1:L 1=true→At a 26=part
 v2:L 2=true→At a 27=.string S
 v3:L 3=true→∃B,At a 28=.slice (some ⟨B,0,none⟩) 1 1∧(L 4=false→W.cell? ⟨B,0,none⟩=some (.string S))
 v4:L 4=true→At a 29=.slice (some ⟨R,0,none⟩) (k+1) cap
 turn:Turn W0 W (fun i=>i=R∨i=PB)
 row:L 4=false→W.ownsRow base 9 1 (.slice (some ⟨R,0,none⟩) k cap) k xs
 row2:L 4=true→W.ownsRow base 9 1 (.slice (some ⟨R,0,none⟩) (k+1) cap) (k+1) (xs++[.string S])
 box:L 5=false→Boxed W PB 49 (.slice (some ⟨R,0,none⟩) k cap)
 box2:L 5=true→Boxed W PB 49 (.slice (some ⟨R,0,none⟩) (k+1) cap)
 o54:L 5=true→L 4=true
 o43:L 4=true→L 3=true
 o40:L 4=true→L 0=true
 o32:L 3=true→L 2=true
section
variable {W0 : World} {base PB R cap k : Nat} {xs : List Value} {S : ByteArray} {part : Value} {a0 : Act} {L : Nat → Bool} {a : Act} {W : World}
theorem Qbw{L:Nat→Bool}{i j:Nat}(h:upd L i j=false):L j=false:=by
 cases e:L j with
 |false=>rfl
 |true=>rw[QH e]at h;cases h
theorem not_true{b:Bool}(h:b=false):¬b=true:=by rw[h];decide
theorem PI.val0(h:PI W0 base PB R cap k xs S part a0 L a W):PI W0 base PB R cap k xs S part a0 (upd L 0) (a.put (some 25) (.slice (some ⟨R,0,none⟩) k cap)) W:=by
 have hs:31≤a.tmps.size:=by rw[h.agr.size];exact h.big
 refine⟨h.agr.put (by decide) _,h.big,fun _=>At.Qbt (by omega),fun p=>?_,fun p=>?_,fun p=>?_,fun p=>?_,h.turn,fun p=>h.row (Qbw p),fun p=>h.row2 (Qi p (by decide)),fun p=>h.box (Qbw p),fun p=>h.box2 (Qi p (by decide)),fun p=>QH (h.o54 (Qi p (by decide))),fun p=>QH (h.o43 (Qi p (by decide))),fun p=>QH (h.o40 (Qi p (by decide))),fun p=>QH (h.o32 (Qi p (by decide)))⟩
 ·rw[At.QO (by decide)];exact h.v1 (Qi p (by decide))
 ·rw[At.QO (by decide)];exact h.v2 (Qi p (by decide))
 ·rw[At.QO (by decide)];obtain⟨B,q1,q2⟩:=h.v3 (Qi p (by decide));exact⟨B,q1,fun q=>q2 (Qbw q)⟩
 ·rw[At.QO (by decide)];exact h.v4 (Qi p (by decide))
theorem PI.val1(h:PI W0 base PB R cap k xs S part a0 L a W):PI W0 base PB R cap k xs S part a0 (upd L 1) (a.put (some 26) part) W:=by
 have hs:31≤a.tmps.size:=by rw[h.agr.size];exact h.big
 refine⟨h.agr.put (by decide) _,h.big,fun p=>?_,fun _=>At.Qbt (by omega),fun p=>?_,fun p=>?_,fun p=>?_,h.turn,fun p=>h.row (Qbw p),fun p=>h.row2 (Qi p (by decide)),fun p=>h.box (Qbw p),fun p=>h.box2 (Qi p (by decide)),fun p=>QH (h.o54 (Qi p (by decide))),fun p=>QH (h.o43 (Qi p (by decide))),fun p=>QH (h.o40 (Qi p (by decide))),fun p=>QH (h.o32 (Qi p (by decide)))⟩
 ·rw[At.QO (by decide)];exact h.v0 (Qi p (by decide))
 ·rw[At.QO (by decide)];exact h.v2 (Qi p (by decide))
 ·rw[At.QO (by decide)];obtain⟨B,q1,q2⟩:=h.v3 (Qi p (by decide));exact⟨B,q1,fun q=>q2 (Qbw q)⟩
 ·rw[At.QO (by decide)];exact h.v4 (Qi p (by decide))
theorem PI.no4(h:PI W0 base PB R cap k xs S part a0 L a W)(h3:L 3=false):L 4=false:=by
 cases e:L 4 with
 |false=>rfl
 |true=>rw[h.o43 e]at h3;cases h3
theorem PI.no5(h:PI W0 base PB R cap k xs S part a0 L a W)(h4:L 4=false):L 5=false:=by
 cases e:L 5 with
 |false=>rfl
 |true=>rw[h.o54 e]at h4;cases h4
theorem PI.val2(h:PI W0 base PB R cap k xs S part a0 L a W)(h3:L 3=false){w':World}(hg:W.grownBy w' none):PI W0 base PB R cap k xs S part a0 (upd L 2) (a.put (some 27) (.string S)) w':=by
 have hs:31≤a.tmps.size:=by rw[h.agr.size];exact h.big
 have n4:=h.no4 h3;have n5:=h.no5 n4;refine⟨h.agr.put (by decide) _,h.big,fun p=>?_,fun p=>?_,fun _=>At.Qbt (by omega),fun p=>absurd (Qi p (by decide)) (not_true h3),fun p=>absurd (Qi p (by decide)) (not_true n4),h.turn.trans (Qc hg) (fun _ _ e=>e.elim),fun _=>(h.row n4).kept hg (.inr (fun e=>by cases e)),fun p=>absurd (Qi p (by decide)) (not_true n4),fun _=>(h.box n5).kept hg (fun e=>by cases e),fun p=>absurd (Qi p (by decide)) (not_true n5),fun p=>absurd (Qi p (by decide)) (not_true n5),fun p=>absurd (Qi p (by decide)) (not_true n4),fun p=>absurd (Qi p (by decide)) (not_true n4),fun p=>absurd (Qi p (by decide)) (not_true h3)⟩
 ·rw[At.QO (by decide)];exact h.v0 (Qi p (by decide))
 ·rw[At.QO (by decide)];exact h.v1 (Qi p (by decide))
theorem PI.val3(h:PI W0 base PB R cap k xs S part a0 L a W)(h2:L 2=true)(h3:L 3=false):PI W0 base PB R cap k xs S part a0 (upd L 3) (a.put (some 28) (.slice (some ⟨W.heap.size,0,none⟩) 1 1)) (W.alloc (.cells #[.string S] 9)):=by
 have hs:31≤a.tmps.size:=by rw[h.agr.size];exact h.big
 have n4:=h.no4 h3;have n5:=h.no5 n4;refine⟨h.agr.put (by decide) _,h.big,fun p=>?_,fun p=>?_,fun p=>?_,fun _=>⟨W.heap.size,At.Qbt (by omega),fun _=>?_⟩,fun p=>absurd (Qi p (by decide)) (not_true n4),h.turn.trans (Turn.alloc W _ (fun i=>i=R∨i=PB)) (fun _ _ e=>e),fun _=>(h.row n4).alloc _,fun p=>absurd (Qi p (by decide)) (not_true n4),fun _=>(h.box n5).alloc _,fun p=>absurd (Qi p (by decide)) (not_true n5),fun p=>absurd (Qi p (by decide)) (not_true n5),fun p=>absurd (Qi p (by decide)) (not_true n4),fun p=>absurd (Qi p (by decide)) (not_true n4),fun _=>QH h2⟩
 ·rw[At.QO (by decide)];exact h.v0 (Qi p (by decide))
 ·rw[At.QO (by decide)];exact h.v1 (Qi p (by decide))
 ·rw[At.QO (by decide)];exact h.v2 (Qi p (by decide))
 ·rw[cell_of_row _ _ _ _ _ _ (heap_alloc_new W _)];rfl
theorem PI.val4(h:PI W0 base PB R cap k xs S part a0 L a W)(h4:L 4=false)(h0:L 0=true)(h3:L 3=true)(hne:R≠PB){w':World}(ho:w'.ownsRow base 9 1 (.slice (some ⟨R,0,none⟩) (k+1) cap) (k+1) (xs++[.string S]))(hg:W.grownBy w' (some R)) :
  PI W0 base PB R cap k xs S part a0 (upd L 4) (a.put (some 29) (.slice (some ⟨R,0,none⟩) (k+1) cap)) w':=by
 have hs:31≤a.tmps.size:=by rw[h.agr.size];exact h.big
 have n5:=h.no5 h4;refine⟨h.agr.put (by decide) _,h.big,fun p=>?_,fun p=>?_,fun p=>?_,fun p=>?_,fun _=>At.Qbt (by omega),h.turn.trans (Turn.Qf hg (S:=(·=R)) (fun i e _=>by cases e;rfl)) (fun _ _ e=>.inl e),fun p=>(by rw[Qed]at p;cases p),fun _=>ho,fun _=>(h.box n5).kept hg (fun e=>hne (by cases e;rfl)),fun p=>absurd (Qi p (by decide)) (not_true n5),fun p=>absurd (Qi p (by decide)) (not_true n5),fun _=>QH h3,fun _=>QH h0,fun p=>QH (h.o32 (Qi p (by decide)))⟩
 ·rw[At.QO (by decide)];exact h.v0 (Qi p (by decide))
 ·rw[At.QO (by decide)];exact h.v1 (Qi p (by decide))
 ·rw[At.QO (by decide)];exact h.v2 (Qi p (by decide))
 ·rw[At.QO (by decide)];obtain⟨B,q1,q2⟩:=h.v3 h3;exact⟨B,q1,fun q=>by rw[Qed]at q;cases q⟩
theorem PI.val5(h:PI W0 base PB R cap k xs S part a0 L a W)(h4:L 4=true)(h5:L 5=false)(hne:R≠PB):PI W0 base PB R cap k xs S part a0 (upd L 5) a (W.setCell ⟨PB,0,none⟩ (.slice (some ⟨R,0,none⟩) (k+1) cap)):=by
 refine⟨h.agr,h.big,fun p=>h.v0 (Qi p (by decide)),fun p=>h.v1 (Qi p (by decide)),fun p=>h.v2 (Qi p (by decide)),fun p=>?_,fun _=>h.v4 h4,h.turn.trans (Turn.setCell W _ _ (S:=(·=PB)) rfl) (fun _ _ e=>.inr e),fun p=>absurd h4 (not_true (Qbw p)),fun _=>(h.row2 h4).kept (grownBy_setCell' W PB _) (.inr (fun e=>hne (by simpa [Value.ownBlock] using e))),fun p=>(by rw[Qed]at p;cases p),fun _=>(h.box h5).set _,fun _=>QH h4,fun p=>QH (h.o43 (Qi p (by decide))),fun p=>QH (h.o40 (Qi p (by decide))),fun p=>QH (h.o32 (Qi p (by decide)))⟩;obtain⟨B,q1,q2⟩:=h.v3 (Qi p (by decide));exact⟨B,q1,fun q=>absurd (QH h4) (not_true q)⟩
end
end Cn
namespace Cn
open Go.RowKit Go.Shelf Bs Dv Gr Dr
open Su (GeoOk pagesF)
open Cf (Kept QbB QaH QaS)
attribute [local go_sem] Oper.semAt_some
theorem QdJ(size blocks:Int)(w:World)(h:GeoOk size blocks) :
  Calls Tryz.prog 120 #[.agg #[.int .i64 size,.int .i64 blocks]] w fun e w'=>e=.returned (.int .i64 (eachC size:Int))∧w.grownBy w' none:=by
 have HG0:=hid (Qb w (.cells #[.int .i64 size,.int .i64 blocks] 28));have HR:=hid (fun W=>Fr.Qan size W);obtain⟨h1,h2⟩:=QX h;obtain⟨r,hr⟩:∃r,Fr.room size=r:=⟨_,rfl⟩;rw[hr]at HR h2;have hd:r.tdiv 2=(eachC size:Int):=by rw[Int.tdiv_eq_ediv_of_nonneg (by omega)];omega
 have hb:=(QX h).2;have hle:(eachC size:Int)≤4096:=by
  have:=Su.QR h;unfold GeoOk at h;omega
 obtain⟨q,hq⟩:∃q,eachC size=q:=⟨_,rfl⟩;rw[hq]at hd hle ⊢;clear h h1 h2 hr hb hq;have e1:IntKind.i64.wrap (q:Int)=(q:Int):=IntWalk.i64_in _ (by omega);go_enter Tryz.func120,Tryz.ntmps120
 go_wp2_with fail
 refine(HR.out _).mono ?_;rintro e w2 ⟨rfl,hg⟩;have HG2:=hid (Qa HG0.out hg);clear hg;dsimp only;go_wp2;go_ret
 exact⟨rfl,HG2.out⟩
def roomS(S:Nat):Array Value:=madeCells (Value.string ⟨#[]⟩).cells S
theorem Qeu(S:Nat)(hS:S≤100000)(W:World):(Instr.makeSlice 49 (.int .i64 0) (.int .i64 (S:Int))).run Tryz.prog W=.ok (.slice (some ⟨W.heap.size,0,none⟩) 0 S) (W.alloc (.cells (roomS S) 9)):=by
 obtain⟨i0,hi,hz0,hz1,hz2⟩:=info_parts Ss.QcN;have h:=run_make (P:=Tryz.prog) W 49 9 i0 (.string ⟨#[]⟩) Tryz.underlying49 hi hz0 .i64 .i64 0 (S:Int) (by omega) (by omega) (by rw[hz2];omega) (by omega);rw[hz1,Int.toNat_natCast,Nat.mul_one]at h;exact h
theorem Qfk(W:World)(S:Nat)(hS:S≤100000):(W.alloc (.cells (roomS S) 9)).ownsRow W.heap.size 9 1 (.slice (some ⟨W.heap.size,0,none⟩) 0 S) 0 []:=
 World.ownsRow_made (base:=W.heap.size) (e:=9) (size:=1) W (roomS S) S (Nat.le_refl _) (by unfold maxLen;omega) (by unfold roomS;rw[size_madeCells,Nat.mul_one])
theorem QaQ{size:Int}{n:Nat}(h:GeoOk size n)(N:List Int)(hl:N.length=n):(pagesL (eachC size) n N).length=piecesC n (eachC size)∧pagesF size n=(piecesC n (eachC size):Int):=by
 have he:=(QX h).1;have h1:=QbA (eachC size) (by omega) n N (by omega);rw[hl]at h1;exact⟨h1,by rw[←Qav h N hl,h1];rfl⟩
theorem Qfs{n each:Nat}(he:56≤each)(hn:n≤4096):piecesC n each≤74:=by
 unfold piecesC;exact Nat.le_of_lt_succ (Nat.div_lt_of_lt_mul (by omega))
theorem Qjs{w:World}{g h cap:Nat}{size:Int}{n:Nat}{N:List Int}(hc:CC w g h cap size N)(hln:N.length=n)(each k:Nat)(hk:k*each<n):Hs.Seg w (some ⟨h,k*each,none⟩) (pieceL n each k) (pieceL n each k) ((N.drop (k*each)).take each):=by
 have hs:=hc.small;have h1:=hc.seg.drop (k:=k*each) (by omega);rw[Nat.zero_add]at h1;have hl:((N.drop (k*each)).take each).length=pieceL n each k:=by unfold pieceL;rw[List.length_take,List.length_drop,hln]
 refine⟨hl,Nat.le_refl _,by unfold maxLen pieceL;omega,(fun e=>by cases e),fun ad had j u hu=>h1.at_ ad had j u ?_⟩;have hj:=(List.getElem?_eq_some_iff.1 hu).1;rw[List.length_map,List.length_take]at hj;rw[List.getElem?_map,List.getElem?_take_of_lt (by omega)]at hu;rw[List.getElem?_map];exact hu
theorem Qgu{w W W':World}{row:Option Nat}(h:w.grownBy W none)(hg:W.grownBy W' row)(hr:∀r,row=some r→w.heap.size≤r):w.grownBy W' none:=
 ⟨hg.os.trans h.os,hg.tape.trans h.tape,hg.output.trans h.output,Nat.le_trans h.size hg.size,fun i hi _=>(hg.block i (Nat.lt_of_lt_of_le hi h.size) (fun e=>by have:=hr i e.symm;omega)).trans (h.block i hi (by simp))⟩
def PagesX(w:World)(l:List (List Int))(e:Ending)(w':World):Prop:=
 w.grownBy w' none∧∃a c,e=.returned (.slice (some ⟨a,0,none⟩) l.length c)∧Ss.Seg w' (some ⟨a,0,none⟩) l.length c l∧w.heap.size≤a
def PagesO(w:World)(l:List (List Int))(e:Ending)(w':World):Prop:=
 w.grownBy w' none∧∃a c,e=.returned (.slice (some ⟨a,0,none⟩) l.length c)∧w'.ownsRow w.heap.size 9 1 (.slice (some ⟨a,0,none⟩) l.length c) l.length (l.map Ss.encW)∧w.heap.size≤a
theorem pages_own (g h cap:Nat) (size:Int) (n:Nat) (N:List Int) (w:World) (hc:CC w g h cap size N) (ho:CnOk size n N) :
    Calls Tryz.prog 93 #[.pointer (some ⟨g,0,none⟩)] w (PagesO w (pagesL (eachC size) n N)):=by
  have hln:=ho.len
  have hgeo:=ho.geo
  have HV:=hid (Ql g w hc.cells.2.2.2)
  obtain⟨hpl,hpf⟩:=QaQ hgeo N hln
  have he:=(QX hgeo).1
  have hn:8≤n∧n≤4096:=by unfold GeoOk at hgeo;omega
  have hp74:=Qfs he hn.2
  have HPG:=hid (fun W=>Su.Qah size n W)
  rw[hpf]at HPG
  have HPP:=hid (fun W=>QdJ size n W hgeo)
  have he2:eachC size≤4096:=by
    have h1:=(QX hgeo).2
    have h2:=Su.QR hgeo
    have h3:=hgeo.2.1
    omega
  obtain⟨each,hea⟩:∃each,eachC size=each:=⟨_,rfl⟩
  rw[hea]at hpl HPG HPP he hp74 he2 ⊢
  have HCH:=hid (fun a c W=>Qe4 a n c each W (by omega))
  obtain⟨p,hp⟩:∃p,piecesC n each=p:=⟨_,rfl⟩
  rw[hp]at hpl HPG hp74
  have hmk:=Qeu p (by omega)
  have HMO:=hid (fun W=>Qfk W p (by omega))
  have HC:=hid hc
  have hc0:=hc.cells.1
  have hc1:=hc.cells.2.1
  rw[hln]at hc1
  have HPL:=hid hpl
  have HPE:=hid hp
  have HLN:=hid hln
  have HOK:=hid ho
  have HEA:=hid hea
  clear hc ho hpl hpf hp hea hgeo hln
  refine(callsIn_wide (n:=3)).1 ?_
  refine callsIn_of_wp_marks Tryz.func93 rfl trivial ?_ rfl
  simp only[Tryz.ntmps93,List.size_toArray,List.length_cons,List.length_nil,Nat.reduceAdd,Nat.reduceSub,Array.replicate_succ,Array.replicate_zero,List.push_toArray,List.append_toArray,List.nil_append,List.cons_append]
  refine wpIn_wide.2 ?_
  go_wp2_with (first|(go_at_call 84;refine HV.out.mono ?_;rintro e w' ⟨rfl,rfl⟩)|fail)
  refine(HPG.out _).mono ?_
  rintro e w2 ⟨rfl,hg2⟩
  have HG2:=hid hg2
  clear hg2
  dsimp only
  go_wp2
  have HO3:Hid (((w2.alloc (.cells (roomS p) 9)).alloc (.cells #[.slice (some ⟨w2.heap.size,0,none⟩) 0 p] 49)).ownsRow w2.heap.size 9 1 (.slice (some ⟨w2.heap.size,0,none⟩) 0 p) 0 []):=hid ((HMO.out w2).alloc _)
  have HB3:Hid (Boxed ((w2.alloc (.cells (roomS p) 9)).alloc (.cells #[.slice (some ⟨w2.heap.size,0,none⟩) 0 p] 49)) (w2.heap.size+1) 49 (.slice (some ⟨w2.heap.size,0,none⟩) 0 p)):=hid (by
    have:=Boxed.new (w2.alloc (.cells (roomS p) 9)) 49 (.slice (some ⟨w2.heap.size,0,none⟩) 0 p)
    rwa [World.size_alloc]at this)
  have HG3:Hid (w.grownBy ((w2.alloc (.cells (roomS p) 9)).alloc (.cells #[.slice (some ⟨w2.heap.size,0,none⟩) 0 p] 49)) none):=hid (Qa (Qa HG2.out (Qb _ _)) (Qb _ _))
  have hz3:((w2.alloc (.cells (roomS p) 9)).alloc (.cells #[.slice (some ⟨w2.heap.size,0,none⟩) 0 p] 49)).heap.size=w2.heap.size+2:=by simp[World.size_alloc]
  obtain⟨W3,hW3⟩:∃X,(w2.alloc (.cells (roomS p) 9)).alloc (.cells #[.slice (some ⟨w2.heap.size,0,none⟩) 0 p] 49)=X:=⟨_,rfl⟩
  rw[hW3]at HO3 HB3 HG3 hz3 ⊢
  have HZ3:=hid hz3
  have b0:=(Qc HG3.out).cell hc0 id
  have b1:=(Qc HG3.out).cell hc1 id
  have b2:=(HC.out.old HG3.out).cells.2.2.1
  rw[HLN.out]at b2
  clear hW3 hmk HMO hc0 hc1 hz3
  have HD3:=hid (Qn W3)
  go_region_held3 (fun w'=>w'.cell? ⟨g,0,none⟩=some (.int .i64 size)∧w'.cell? ⟨g,1,none⟩=some (.int .i64 (n:Int))∧w'.cell? ⟨g,2,none⟩=some (.slice (some ⟨h,0,none⟩) n cap)) (go_keep)
    (first
      | (go_at_call 120
         (with_reducible refine(HPP.out _).mono ?_)
         rintro e w4 ⟨rfl,hg4⟩
         have HG4:=hid (Qa HD3.out hg4)
         have k0:=(Qc HG4.out).cell b0 id
         have k1:=(Qc HG4.out).cell b1 id
         have k2:=(Qc HG4.out).cell b2 id
         clear hg4)
      | (go_at_call 119
         (with_reducible refine(HCH.out _ _ _).mono ?_)
         rintro e w5 ⟨rfl,hw5⟩
         have HG5:Hid (W3.grownBy w5 none):=hid (by rw[hw5];exact Qa HG4.out (Qa (Qb _ _) (Qb _ _)))
         have HW5:=hid hw5
         have k0:=(Qc HG5.out).cell b0 id
         have k1:=(Qc HG5.out).cell b1 id
         have k2:=(Qc HG5.out).cell b2 id
         clear hw5)
      |fail)
  go_wp2
  refine(wpIn_wide (n:=3)).1 ?_
  have HSZ:Hid (w2.heap.size+2≤w4.heap.size∧w5.heap.size=w4.heap.size+2∧w.heap.size≤w2.heap.size):=hid (by
    refine⟨?_,?_,HG2.out.size⟩
    · have:=HG4.out.size;have:=HZ3.out;omega
    · rw[HW5.out];simp[World.size_alloc])
  have HA5:Hid (w5.cell? ⟨w4.heap.size,0,none⟩=some (.slice (some ⟨h,0,none⟩) n cap)∧w5.cell? ⟨w4.heap.size+1,0,none⟩=some (.int .i64 each)):=hid (by
    have q1:=Boxed.new w4 133 (.slice (some ⟨h,0,none⟩) n cap)
    have q2:=Boxed.new (w4.alloc (.cells #[.slice (some ⟨h,0,none⟩) n cap] 133)) 3 (.int .i64 each)
    rw[World.size_alloc]at q2
    rw[HW5.out]
    exact⟨(q1.alloc _).cell,q2.cell⟩)
  have HC5:=hid (HC.out.old (Qa HG3.out HG5.out))
  have HO5:Hid (w5.ownsRow w2.heap.size 9 1 (.slice (some ⟨w2.heap.size,0,none⟩) 0 p) 0 (((pagesL each n N).take 0).map Ss.encW)):=hid (HO3.out.kept HG5.out (.inr (fun e=>by cases e)))
  have HB5:Hid (Boxed w5 (w2.heap.size+1) 49 (.slice (some ⟨w2.heap.size,0,none⟩) 0 p)):=hid (HB3.out.kept HG5.out (fun e=>by cases e))
  have HGW5:=hid (Qa HG3.out HG5.out)
  have hgl:g<w5.heap.size:=HC5.out.glt
  have hhl:h<w5.heap.size:=HC5.out.lt
  have HGL:=hid (⟨HC.out.glt,HC.out.lt⟩:g<w.heap.size∧h<w.heap.size)
  have hncap:n≤cap:=by have:=HC.out.le;rw[HLN.out]at this;exact this
  clear b0 b1 b2 hgl hhl k0 k1 k2
  refine QbB         rfl (by decide) (gf:=140) (first:=#[]) (lb:=#[.pointer (some ⟨w4.heap.size,0,none⟩),.pointer (some ⟨w4.heap.size+1,0,none⟩)]) rfl trivial (enters_of Tryz.func140 (by kernel_rfl) rfl)
    (QdB 2 (by decide) (fun i=>i=w4.heap.size∨i=w4.heap.size+1) w4.heap.size (w4.heap.size+1) h n cap each w5 HA5.out.1 HA5.out.2 (.inl rfl) (.inr rfl) (fun i hi=>by have:=HSZ.out;omega) hn.2 hncap ⟨by omega,he2⟩) (Below.refl _ _) (fun h k=>Kept.t h k) (Kept.b (fun i hi=>by have:=HSZ.out;omega)) (fun _=>rfl)
    (fun k W=>(Boxed W (w2.heap.size+1) 49 (.slice (some ⟨w2.heap.size,0,none⟩) k p)∧W.ownsRow w2.heap.size 9 1 (.slice (some ⟨w2.heap.size,0,none⟩) k p) k (((pagesL each n N).take k).map Ss.encW))∧CC W g h cap size N∧w.grownBy W none)
    (fun _ _=>False)
    (fun k W W' row ⟨⟨q1,q2⟩,q3,q4⟩ hg hr=>by
      have hsz:=HSZ.out
      have hgl:=HGL.out
      have hne:∀i,i<w5.heap.size→some i≠row:=fun i hi e=>by have:=(hr i e.symm).1;omega
      refine⟨⟨q1.kept hg (hne _ (by omega)),q2.kept hg (.inr (hne w2.heap.size (by omega)))⟩,q3.turn (S:=fun i=>w5.heap.size≤i) (Turn.Qf hg (fun i e _=>(hr i e).1)) (by show ¬w5.heap.size≤g;omega) (by show ¬w5.heap.size≤h;omega),Qgu q4 hg (fun r e=>by have:=(hr r e).1;omega)⟩)
    (fun _ _ _ _ _ h _ _=>h.elim)
    ⟨⟨HB5.out,HO5.out⟩,HC5.out,HGW5.out⟩
    (fun k=>{ tmps:=#[.pointer (some ⟨g,0,none⟩),undef,.slice none 0 0,.pointer (some ⟨w2.heap.size+1,0,none⟩),.slice (some ⟨h,k*each,none⟩) (pieceL n each k) (pieceL n each k),.pointer (some ⟨g,0,none⟩),.bool true,.bool false,.pointer (some ⟨g,0,none⟩),.pointer (some ⟨g,0,none⟩),.pointer (some ⟨g,0,none⟩),
      .agg #[.int .i64 size,.int .i64 n],.int .i64 p,.slice (some ⟨w2.heap.size,0,none⟩) 0 p,.pointer (some ⟨g,0,none⟩),.pointer (some ⟨g,0,none⟩),.pointer (some ⟨g,2,none⟩),.slice (some ⟨h,0,none⟩) n cap,.pointer (some ⟨g,0,none⟩),.pointer (some ⟨g,0,none⟩),.pointer (some ⟨g,0,none⟩),.agg #[.int .i64 size,.int .i64 n],.int .i64 each,
      .func (.func 140) #[] #[.pointer (some ⟨w4.heap.size,0,none⟩),.pointer (some ⟨w4.heap.size+1,0,none⟩)],.slice (some ⟨h,k*each,none⟩) (pieceL n each k) (pieceL n each k),undef,undef,undef,undef,undef,undef],defers:=[] }) ?assign ?body ?done ?stop
  case assign=>
    intro l k W K hK
    unfold encP
    gi_wp2
    exact hK
  case stop=>intro D c W _ h;exact h.elim
  case body=>
    rintro y k W hk ⟨⟨q1,q2⟩,q3,q4⟩
    have hkn:k*each<n:=(Qaj n each k (by omega)).1 hk
    rw[HPE.out]at hk
    have hget:=Qcm each (by omega) n k N (by rw[HLN.out];exact Nat.le_refl _) (by rw[HLN.out];exact hkn)
    have HTK:Hid ((pagesL each n N).take (k+1)=(pagesL each n N).take k++[bytesC ((N.drop (k*each)).take each)]):=hid (by
      obtain⟨h1,h2⟩:=List.getElem?_eq_some_iff.1 hget
      rw[List.take_succ_eq_append_getElem h1,h2])
    have HSG:=hid (Qjs q3 HLN.out each k hkn)
    have HIC:Hid (IsC ((N.drop (k*each)).take each)):=hid (fun x hx=>HOK.out.cnt x (List.mem_of_mem_drop (List.mem_of_mem_take hx)))
    have hpn:pieceL n each k≤4096:=by unfold pieceL;omega
    obtain⟨pc,hpc⟩:∃pc,(N.drop (k*each)).take each=pc:=⟨_,rfl⟩
    rw[hpc]at HTK HSG HIC
    obtain⟨o,hoo⟩:∃o,k*each=o:=⟨_,rfl⟩
    obtain⟨q,hqq⟩:∃q,pieceL n each k=q:=⟨_,rfl⟩
    rw[hoo,hqq]at HSG
    rw[hqq]at hpn
    rw[hoo,hqq]
    obtain⟨S,hS⟩:∃S,strOfNums (bytesC pc)=S:=⟨_,rfl⟩
    have HS:=hid hS
    have HPT:=hid (fun W' (t:Turn W W' (fun i=>i=w2.heap.size∨i=w2.heap.size+1)) (hh:¬(h=w2.heap.size∨h=w2.heap.size+1))=>QbU     ⟨h,o,none⟩ q q pc W' (by
      have hs:=HSG.out
      refine⟨hs.len,hs.le,hs.cap,hs.nil_,fun ad had j u hu=>t.cell (hs.at_ ad had j u hu) (by cases had;rw[block_add];exact hh)⟩) HIC.out hpn)
    rw[hS]at HPT
    have hhne:¬(h=w2.heap.size∨h=w2.heap.size+1):=by have:=HGL.out;have:=HSZ.out;omega
    obtain⟨i0,hi,hz0,hz1,hz2⟩:=info_parts Ss.QcN
    clear hget hpc hoo hqq hS hkn hpn
    refine wpIn_block ?_
    refine QaH (I:=PI W w2.heap.size (w2.heap.size+1) w2.heap.size p k (((pagesL each n N).take k).map Ss.encW) S (.slice (some ⟨h,o,none⟩) q q)) (by kernel_rfl) (by kernel_rfl) (by rintro⟨_,_,h⟩;exact h) (by kernel_rfl) ?start ?steps ?fin
    case start=>
      exact⟨Agr.refl _ _,by simp,(fun e=>by cases e),(fun e=>by cases e),(fun e=>by cases e),(fun e=>by cases e),(fun e=>by cases e),Turn.drew W _,fun _=>q2,(fun e=>by cases e),fun _=>q1,(fun e=>by cases e),(fun e=>by cases e),(fun e=>by cases e),(fun e=>by cases e),(fun e=>by cases e)⟩
    case steps=>
      show ∀i,i<6→_
      refine QP (QP (QP (QP (QP (QP Dr.all_nil ?r0) ?r1) ?r2) ?r3) ?r4) ?r5
      case r0=>
        refine StepAt.mk rfl (ns:=[]) (by kernel_rfl) rfl ?_
        intro L X V h0 hn hI
        have n4:L 4=false:=by
          cases e:L 4 with
          |false=>rfl
          |true=>rw[hI.o40 e]at h0;cases h0
        have c4:=(hI.box (hI.no5 n4)).cell
        have e3:X.tmps[3]?.getD undef=.pointer (some ⟨w2.heap.size+1,0,none⟩):=by rw[hI.agr.same 3 (by decide)];rfl
        refine Qa7 (v:=.slice (some ⟨w2.heap.size,0,none⟩) k p) ?_ hI.val0
        simp[go_sem,e3,c4]
      case r1=>
        refine StepAt.mk rfl (ns:=[]) (by kernel_rfl) rfl ?_
        intro L X V h0 hn hI
        have e4:X.tmps[4]?.getD undef=.slice (some ⟨h,o,none⟩) q q:=by rw[hI.agr.same 4 (by decide)];rfl
        refine Qa7 (v:=.slice (some ⟨h,o,none⟩) q q) ?_ hI.val1
        simp[go_sem,e4]
      case r2=>
        refine StepAt.mk rfl (ns:=[1]) (by kernel_rfl) rfl ?_
        intro L X V h0 hn hI
        have e26:X.tmps[26]?.getD undef=.slice (some ⟨h,o,none⟩) q q:=by have:=hI.v1 (hn 1 (by decide));unfold At at this;rw[Array.getD_eq_getD_getElem?]at this;exact this
        have n3:L 3=false:=by
          cases e:L 3 with
          |false=>rfl
          |true=>rw[hI.o32 e]at h0;cases h0
        refine QhF (v:=.string S) (R:=fun w2=>V.grownBy w2 none) (f:=121) (vs:=#[.slice (some ⟨h,o,none⟩) q q]) ?_ (HPT.out V hI.turn hhne) (fun w2 hg=>hI.val2 n3 hg)
        simp[go_sem,e26]
      case r3=>
        refine StepAt.mk rfl (ns:=[2]) (by kernel_rfl) rfl ?_
        intro L X V h0 hn hI
        have e27:X.tmps[27]?.getD undef=.string S:=by have:=hI.v2 (hn 2 (by decide));unfold At at this;rw[Array.getD_eq_getD_getElem?]at this;exact this
        refine Ql4 (v:=.slice (some ⟨V.heap.size,0,none⟩) 1 1) (w':=V.alloc (.cells #[.string S] 9)) ?_ (hI.val3 (hn 2 (by decide)) h0)
        simp[go_sem,e27]
      case r4=>
        refine StepAt.mk rfl (ns:=[0,3,2]) (by kernel_rfl) rfl ?_
        intro L X V h0 hn hI
        obtain⟨B,q5,q6⟩:=hI.v3 (hn 3 (by decide))
        have e25:=hI.v0 (hn 0 (by decide))
        obtain⟨V',hrun,ho',hg'⟩:=QeT (P:=Tryz.prog) V 49 49 9 i0 Tryz.underlying49 hi hz1 w2.heap.size w2.heap.size k p _ _ (hI.row h0) (by omega) B 1 (q6 h0) (by simp[Value.oneCell'])
        exact QgP (.tmp 25) (.tmp 28) 49 rfl _ _ _ e25 q5 V' hrun (hI.val4 h0 (hn 0 (by decide)) (hn 3 (by decide)) (by omega) ho' hg')
      case r5=>
        refine StepAt.mk rfl (ns:=[4,4,0,1,2,3,4]) (by kernel_rfl) rfl ?_
        intro L X V h0 hn hI
        exact QgQ rfl (.tmp 3) (.tmp 29) rfl (w2.heap.size+1) ((hI.agr.at_ (d:=3) (by decide)).trans rfl) (some ⟨w2.heap.size,0,none⟩) (k+1) p (hI.v4 (hn 4 (by decide))) _ (hI.box h0) (hI.val5 (hn 4 (by decide)) h0 (by omega))
    case fin=>
      intro L X V hL hI
      replace hL:∀i,i<6→L i=true:=hL
      have hsz:=HSZ.out
      have hgl:=HGL.out
      refine⟨QaS hI.turn (fun i e=>by omega),hI.turn.mono (fun i _ e=>by show ¬(i=w4.heap.size∨i=w4.heap.size+1);omega),⟨hI.box2 (hL 5 (by decide)),?_⟩,q3.turn hI.turn (by omega) hhne,?_⟩
      · have:=hI.row2 (hL 4 (by decide))
        rw[HTK.out,List.map_append]
        have e:Ss.encW (bytesC pc)=.string S:=by rw[←HS.out];rfl
        rw[List.map_cons,List.map_nil,e]
        exact this
      · exact⟨hI.turn.os.trans q4.os,hI.turn.tape.trans q4.tape,hI.turn.output.trans q4.output,Nat.le_trans q4.size hI.turn.size,fun i hi _=>(hI.turn.block i (Nat.lt_of_lt_of_le hi q4.size) (by omega)).trans (q4.block i hi (by simp))⟩
  case done=>
    rintro D W hD ⟨⟨q1,q2⟩,q3,q4⟩ hK
    rw[HPE.out]at q1 q2
    rw[List.take_of_length_le (by rw[HPL.out];exact Nat.le_refl _)]at q2
    have c1:=q1.cell
    have HF:Hid (PagesO w (pagesL each n N) (.returned (.slice (some ⟨w2.heap.size,0,none⟩) p p)) (W.putObj D (.deferred none))):=hid (by
      have hD2:w.heap.size≤D:=by have:=HSZ.out;omega
      refine⟨Qgu q4 (grownBy_putObj' W D (.deferred none)) (fun r e=>by cases e;exact hD2),w2.heap.size,p,by rw[HPL.out],?_,HSZ.out.2.2⟩
      rw[HPL.out]
      exact Bs.QA (ownsRow_putObj q2 (.deferred none) hK rfl) HSZ.out.2.2)
    clear q1 q2 q3 q4
    gi_wp2
    go_wp2
    refine⟨by simp,.inl ⟨_,_,rfl,run_takeDeferred hK,?_⟩⟩
    refine⟨_,results_tmp rfl _ _ _,?_⟩
    exact HF.out
theorem Qah(g h cap:Nat)(size:Int)(n:Nat)(N:List Int)(w:World)(hc:CC w g h cap size N)(ho:CnOk size n N) :
  Calls Tryz.prog 93 #[.pointer (some ⟨g,0,none⟩)] w (PagesX w (pagesL (eachC size) n N)):=
 (pages_own g h cap size n N w hc ho).mono fun _ _ ⟨h1,a,c,h2,h3,h4⟩=>⟨h1,a,c,h2,Ss.Seg.own h3,h4⟩
end Cn
namespace Cn
open Go.RowKit Bs Dv Gr
open Oct (putB ofB)
theorem Qe5:∀(k:Nat) (b:List Int),2*k+2≤b.length→cntsB (k+1) b=cntsB k b++[ofB ((b.drop (2*k)).take 2)]
 |0,b,h=>by
  rw[show cntsB (0+1) b=if b.length<2 then [] else ofB (b.take 2) :: cntsB 0 (b.drop 2) from rfl,if_neg (by omega)]
  rfl
 |k+1,b,h=>by
  rw[cntsB,if_neg (by omega),Qe5 k (b.drop 2) (by rw[List.length_drop];omega),cntsB,if_neg (by omega),List.drop_drop,show 2+2*k=2*(k+1) by omega]
  rfl
theorem QbD(k:Nat)(b:List Int)(h:2*k≤b.length):(cntsB k b).length=k:=by
 induction k generalizing b with
 |zero=>rfl
 |succ k ih=>rw[cntsB,if_neg (by omega),List.length_cons,ih _ (by rw[List.length_drop];omega)]
theorem QkU(l:List Int)(p:Nat)(v:List Int)(x:Int)(h:p+v.length<l.length):(spl l p v).set (p+v.length) x=spl l p (v++[x]):=by
 unfold spl;have h1:(l.take p++v).length=p+v.length:=by rw[List.length_append,List.length_take];omega
 rw[List.set_append_right _ _ (by omega),h1,Nat.sub_self,List.drop_eq_getElem_cons (show p+v.length<l.length by omega),List.set_cons_zero,List.length_append,List.append_assoc,List.append_assoc,List.append_assoc]
 rfl
theorem QlX(l:List Int)(p:Nat):spl l p []=l:=by
 unfold spl;rw[List.append_nil,List.length_nil,Nat.add_zero,List.take_append_drop]
theorem Qb8(h cap:Nat)(N:List Int)(o m c:Nat)(b:List Int)(w:World)(hu:UR w h cap N)(hom:o+m≤N.length)(hN:N.length≤4096)(hb:IsB b)(hbl:b.length=2*m)(hc:m≤c) :
  Calls Tryz.prog 146 #[.slice (some ⟨h,o,none⟩) m c,.string (strOfNums b)] w fun e w'=>(∃v,e=.returned v)∧UR w' h cap (spl N o (cntsB m b))∧Turn w w' (·=h):=by
 obtain⟨bc,W1,hcv,hreg,hT1,hbc,hbm⟩:=Qbj b hb (by omega) w;have HU1:Hid (UR W1 h cap (spl N o (cntsB 0 b))):=hid (by rw[cntsB,QlX N o];exact hu.turn hT1 id);have HT1:=hid hT1;have hgb:w.heap.size≠h:=by have:=hu.lt;omega
 have HGB:=hid hgb;have HREG:=hid hreg;have HSP:=hid (fun k (hk:k<m)=>(by
  have h1:=QbD k b (by omega);have h2:=QkU N o (cntsB k b) (ofB ((b.drop (2*k)).take 2)) (by rw[h1];omega);rw[h1,←Qe5 k b (by omega)]at h2;exact h2:(spl N o (cntsB k b)).set (o+k) (ofB ((b.drop (2*k)).take 2))=spl N o (cntsB (k+1) b)))
 have HSL:=hid (fun k (hk:k≤m)=>(QeW N o (cntsB k b) (by rw[QbD k b (by omega)];omega):(spl N o (cntsB k b)).length=N.length));have HIS:=hid (fun k=>(fun x hx=>hb x (List.mem_of_mem_drop (List.mem_of_mem_take hx)):IsB ((b.drop (2*k)).take 2)));have HBL:=hid (fun k (hk:k<m)=>(by rw[List.length_take,List.length_drop];omega:((b.drop (2*k)).take 2).length=2));have HSG:=hid (fun W k (hk:k<m) (t:Turn W1 W (·=h))=>(by
  have h1:=((hreg.turn t hgb).seg hbc hbm).drop (k:=2*k) (by omega);have h2:=h1.take (m:=2) (by omega);rw[Nat.zero_add]at h2;exact h2:Seg W (some ⟨w.heap.size,2*k,none⟩) 2 (bc-2*k) ((b.drop (2*k)).take 2)))
 obtain⟨L2,hL2⟩:∃L,b.length=L:=⟨_,rfl⟩;rw[hL2]at hcv hbc;have HL2:Hid (L2=2*m):=hid (by omega);obtain⟨S,hS⟩:∃S,strOfNums b=S:=⟨_,rfl⟩;rw[hS]at hcv ⊢;unfold maxLen at hbm;have HTW:Hid (∀W,Turn W1 W (·=h)→Turn w W (·=h)):=hid (fun W t=>(hT1.mono (fun _ _ e=>e.elim):Turn w W1 (·=h)).trans t (fun _ _ e=>e));clear hS hu hT1 hreg hb hbl hgb hL2;go_enter Tryz.func146,Tryz.ntmps146
 go_wp2;clear hcv
 go_loopw [10] (fun si wr=>∃k:Nat,k≤m∧si=.int .i64 k∧Hid (UR wr h cap (spl N o (cntsB k b)))∧Hid (Turn W1 wr (·=h))) (fun si _=>m-(intOf si).toNat)
 case atStart=>exact⟨0,by omega,rfl,HU1,hid (Turn.refl _ _)⟩
 case round=>
  clear HU1;obtain⟨k,hk,rfl,HU,HT⟩:=hrel;by_cases hlt:k<m
  ·have hq:decide (k<m)=true:=decide_eq_true hlt;obtain⟨hcell,hfr⟩:=HU.out.row (o+k) (by rw[HSL.out k hk];omega);have HS2:=hid (HU.out.set (o+k) (ofB ((b.drop (2*k)).take 2)) (by rw[HSL.out k hk];omega));rw[HSP.out k hlt]at HS2;have HOF:=hid (Oct.QaO w.heap.size (2*k) 2 (bc-2*k) _ wr (HSG.out wr k hlt HT.out) (HIS.out k) (by decide));have hbd:=Oct.Qv _ (HIS.out k);rw[HBL.out k hlt,show(256:Int) ^ 2=65536 from by decide]at hbd;obtain⟨x,hx⟩:∃x,ofB ((b.drop (2*k)).take 2)=x:=⟨_,rfl⟩;rw[hx]at HS2 HOF hbd;obtain⟨y,hy⟩:∃y,(spl N o (cntsB k b)).getD (o+k) 0=y:=⟨_,rfl⟩;rw[hy]at hcell;have ew:IntKind.u16.wrap x=x:=by rw[IntKind.wrap_u16];omega
   have HT2:=hid (HT.out.trans (Turn.setCell wr ⟨h,o+k,none⟩ (.int .u16 x) (S:=(·=h)) rfl) (fun _ _ e=>e));obtain⟨q,hqq⟩:∃q,2*k=q:=⟨_,rfl⟩;rw[hqq]at HOF;have e2:2*(k:Int)=(q:Int):=by omega
   have e3:IntKind.i64.wrap (q:Int)=(q:Int):=IntWalk.i64_in _ (by omega);have hq2:q+2≤L2:=by have:=HL2.out;omega
   have hbq:¬bc=q:=by omega
   have HQQ:=hid hqq;clear hx hy hbd HU HT hqq;go_wp2_with fail
   refine HOF.out.mono ?_;rintro e w' ⟨rfl,rfl⟩;dsimp only;go_wp2;go_roundw
   case rel=>exact⟨k+1,by omega,by go_num,HS2,HT2⟩
   case measure=>simp[intOf];omega
  ·have hq:decide (k<m)=false:=decide_eq_false hlt;obtain rfl:k=m:=by omega
   go_wp2
   go_end0
   exact⟨⟨_,rfl⟩,HU.out,HTW.out _ HT.out⟩
end Cn
namespace Cn
open Dv
open Su (GeoOk pagesF)
open Oct (putB ofB)
theorem QfN:∀(o m:Nat) (F G:List Int),F.length=2*o→cntsB (o+m) (F++G)=cntsB o F++cntsB m G
 |0,m,F,G,h=>by
  obtain rfl:F=[]:=List.length_eq_zero_iff.1 (by omega);rw[Nat.zero_add,List.nil_append]
  rfl
 |o+1,m,F,G,h=>by
  match F,h with
  |x :: y :: F,h=>
   have h2:F.length=2*o:=by simp at h;omega
   rw[show o+1+m=(o+m)+1 by omega,cntsB,if_neg (by simp),cntsB,if_neg (by simp)]
   show ofB [x,y] :: cntsB (o+m) (F++G)=ofB [x,y] :: cntsB o F++cntsB m G
   rw[QfN o m F G h2]
   rfl
  | [x],h=>simp at h;omega
  | [],h=>simp at h
theorem QbY(A D v:List Int):spl (A++D) A.length v=A++v++D.drop v.length:=by
 unfold spl;rw[List.take_left,List.drop_append,List.drop_of_length_le (by omega),Nat.add_sub_cancel_left]
 rfl
def offC(n each k:Nat):Nat:=min (k*each) n
theorem Qgq{n each k:Nat}(h:k*each<n):offC n each (k+1)=offC n each k+pieceL n each k:=by
 unfold offC pieceL;rw[Nat.add_mul,Nat.one_mul];omega
theorem Qma{n each k:Nat}(h:k*each<n):offC n each k=k*each:=by unfold offC;omega
theorem QlI{n each:Nat}(he:0<each):offC n each (piecesC n each)=n:=by
 have h:¬piecesC n each*each<n:=fun q=>Nat.lt_irrefl _ ((Qaj n each _ he).2 q)
 unfold offC;omega
def LensOk(n each:Nat)(ps:List (List Int))(k:Nat):Prop:=∀j,j<k→(ps.getD j []).length=2*pieceL n each j
theorem QdR{n each:Nat}(he:0<each){ps:List (List Int)}(hp:ps.length=piecesC n each):∀k,k≤piecesC n each→LensOk n each ps k→(ps.take k).flatten.length=2*offC n each k
 |0,_,_=>by
  unfold offC;simp
 |k+1,hk,hl=>by
  have hkn:k*each<n:=(Qaj n each k he).1 (by omega);have ih:=QdR he hp k (by omega) (fun j hj=>hl j (by omega));have h1:=hl k (by omega);rw[List.getD_eq_getElem?_getD,List.getElem?_eq_getElem (by omega)]at h1;have h1:(ps[k]).length=2*pieceL n each k:=h1;rw[List.take_succ_eq_append_getElem (by omega),List.flatten_append,List.length_append,ih,Qgq hkn,List.flatten_cons,List.flatten_nil,List.append_nil,h1];omega
def rowK(n each:Nat)(ps:List (List Int))(N0:List Int)(k:Nat):List Int:=cntsB (offC n each k) (ps.take k).flatten++N0.drop (offC n each k)
theorem Qjx(n each:Nat)(ps:List (List Int))(N0:List Int):rowK n each ps N0 0=N0:=by
 unfold rowK offC;rw[Nat.zero_mul,Nat.zero_min]
 rfl
theorem QkP{n each:Nat}(he:0<each){ps:List (List Int)}(hp:ps.length=piecesC n each){N0:List Int}(hN:N0.length=n)(k:Nat)(hk:k≤piecesC n each)(hl:LensOk n each ps k):(rowK n each ps N0 k).length=n:=by
 unfold rowK;rw[List.length_append,QbD _ _ (by rw[QdR he hp k hk hl];exact Nat.le_refl _),List.length_drop,hN];unfold offC;omega
theorem Qjw{n each:Nat}(he:0<each){ps:List (List Int)}(hp:ps.length=piecesC n each){N0:List Int}(k:Nat)(hk:k<piecesC n each)(hl:LensOk n each ps (k+1)) :
  spl (rowK n each ps N0 k) (k*each) (cntsB (pieceL n each k) (ps.getD k []))=rowK n each ps N0 (k+1):=by
 have hkn:k*each<n:=(Qaj n each k he).1 hk;have hf:=QdR he hp k (by omega) (fun j hj=>hl j (by omega));have h1:=hl k (by omega);have e:(ps.take (k+1)).flatten=(ps.take k).flatten++ps.getD k []:=by
  rw[List.take_succ_eq_append_getElem (by omega),List.flatten_append,List.flatten_cons,List.flatten_nil,List.append_nil,List.getD_eq_getElem?_getD,List.getElem?_eq_getElem (by omega)]
  rfl
 have hc:(cntsB (offC n each k) (ps.take k).flatten).length=k*each:=by rw[QbD _ _ (by rw[hf];exact Nat.le_refl _),Qma hkn]
 unfold rowK;have hs:=QbY (cntsB (offC n each k) (ps.take k).flatten) (N0.drop (offC n each k)) (cntsB (pieceL n each k) (ps.getD k []));rw[hc]at hs;rw[hs,Qgq hkn,e,QfN _ _ _ _ hf,QbD _ _ (by rw[h1];exact Nat.le_refl _),List.drop_drop]
theorem QkO{n each:Nat}(he:0<each){ps:List (List Int)}(hp:ps.length=piecesC n each){N0:List Int}(hN:N0.length=n):rowK n each ps N0 (piecesC n each)=cntsB n ps.flatten:=by
 unfold rowK;rw[QlI he,List.take_of_length_le (by omega),List.drop_of_length_le (by omega),List.append_nil]
theorem Qgf{size:Int}{n:Nat}(h:GeoOk size n){ps:List (List Int)}(hp:ps.length=piecesC n (eachC size)) :
  ps.map List.length=(pagesL (eachC size) n (List.replicate n 0)).map List.length↔LensOk n (eachC size) ps (piecesC n (eachC size)):=by
 have he:=(QX h).1;have hl:=(QaQ h (List.replicate n 0) (by rw[List.length_replicate])).1;have hg:∀j,j<piecesC n (eachC size)→((pagesL (eachC size) n (List.replicate n 0)).map List.length)[j]?=some (2*pieceL n (eachC size) j):=fun j hj=>by
  rw[List.getElem?_map,Qcm (eachC size) (by omega) n j _ (by rw[List.length_replicate];exact Nat.le_refl _) (by rw[List.length_replicate];exact(Qaj n _ j (by omega)).1 hj)]
  show some (bytesC _).length=_
  rw[Qa8,List.length_take,List.length_drop,List.length_replicate]
  rfl
 constructor
 ·intro e j hj;have h1:=hg j hj;rw[←e,List.getElem?_map,List.getElem?_eq_getElem (by omega)]at h1;rw[List.getD_eq_getElem?_getD,List.getElem?_eq_getElem (by omega)];exact Option.some.inj h1
 ·intro k;refine List.ext_getElem? fun j=>?_
  by_cases hj:j<piecesC n (eachC size)
  ·rw[hg j hj,List.getElem?_map,List.getElem?_eq_getElem (by omega)];have:=k j hj;rw[List.getD_eq_getElem?_getD,List.getElem?_eq_getElem (by omega)]at this;exact congrArg some this
  ·rw[List.getElem?_eq_none (by rw[List.length_map];omega),List.getElem?_eq_none (by rw[List.length_map,hl];omega)]
theorem Qkp{size:Int}{n:Nat}(h:GeoOk size n){ps:List (List Int)}(hp:ps.length=piecesC n (eachC size))(hl:¬LensOk n (eachC size) ps (piecesC n (eachC size))):loadC size n ps=([],4):=by
 unfold loadC;rw[if_neg (fun k=>k h),if_neg (fun k=>k (by rw[hp,(QaQ h (List.replicate n 0) (by rw[List.length_replicate])).2])),if_pos (fun k=>hl ((Qgf h hp).1 k))]
theorem Qkq{size:Int}{n:Nat}(h:GeoOk size n){ps:List (List Int)}(hp:ps.length=piecesC n (eachC size))(hl:LensOk n (eachC size) ps (piecesC n (eachC size))) :
  loadC size n ps=if (cntsB n ps.flatten).getD 0 0≠1∨(cntsB n ps.flatten).getD 1 0≠1 then([],4) else(cntsB n ps.flatten,0):=by
 unfold loadC;rw[if_neg (fun k=>k h),if_neg (fun k=>k (by rw[hp,(QaQ h (List.replicate n 0) (by rw[List.length_replicate])).2])),if_neg (fun k=>k ((Qgf h hp).2 hl))]
end Cn
namespace Cn
open Go.RowKit Go.Shelf Bs Dv Gr Dr
open Su (GeoOk pagesF)
open Cf (Kept QbB QaS)
attribute [local go_sem] Oper.semAt_some
def FillX(g h cap:Nat)(size:Int)(n:Nat)(ps:List (List Int))(w:World)(e:Ending)(w':World):Prop:=
 Turn w w' (·=h)∧((e=.returned (.bool true)∧(loadC size n ps).2=0∧CC w' g h cap size (loadC size n ps).1)∨(e=.returned (.bool false)∧(loadC size n ps).2=4))
theorem Qcv{fn:Func}{p:Tmp}(h:fn.results=#[.cell p 4])(tmps:Array Value)(w:World)(B:Nat)(b:Bool)(hp:tmps.getD p undef=.pointer (some ⟨B,0,none⟩))(hb:Boxed w B 4 (.bool b)):(results fn tmps).run Tryz.prog w=.ok (.bool b) w:=by
 have c:=hb.cell;have hp2:tmps[p]?.getD undef=.pointer (some ⟨B,0,none⟩):=by rw[←Array.getD_eq_getD_getElem?];exact hp
 simp[results,h,go_sem,hp2,c]
theorem Qcb{W W':World}{B:Nat}{t:TypeId}{v:Value}{S:Nat→Prop}(hb:Boxed W B t v)(h:Turn W W' S)(hS:¬S B):Boxed W' B t v:=(h.block B hb.lt hS).trans hb
theorem QjV{w w':World}{g h cap:Nat}{size:Int}{N M:List Int}(hc:CC w g h cap size N)(t:Turn w w' (·=h))(hu:UR w' h cap M)(hl:M.length=N.length):CC w' g h cap size M:=by
 refine⟨?_,hu.row,hc.ne,hu.le,hu.capm,by rw[hl];exact hc.small,hu.lt⟩;rw[hl,t.block g hc.glt hc.ne];exact hc.box
theorem Qc0{w W W':World}{h B:Nat}(t:Turn w W (·=h))(t2:Turn W W' (·=B))(hB:w.heap.size≤B):Turn w W' (·=h):=t.trans t2 (fun i hi e=>by have e2:i=B:=e;omega)
theorem fill_any (g h cap:Nat) (size:Int) (n:Nat) (N0:List Int) (a:Option Addr) (pc:Nat) (ps:List (List Int)) (w:World) (hc:CC w g h cap size N0) (hln:N0.length=n) (hgeo:GeoOk size n)
    (hs:Ss.Seg w a ps.length pc ps) (hb:∀p∈ps,IsB p∧p.length≤140737488355328) (hp:ps.length=piecesC n (eachC size)) (hah:∀ad,a=some ad→ad.block≠h) :
    Calls Tryz.prog 126 #[.pointer (some ⟨g,0,none⟩),.slice a ps.length pc] w (FillX g h cap size n ps w):=by
  have he:=(QX hgeo).1
  have hn:8≤n∧n≤4096:=by unfold GeoOk at hgeo;omega
  have hp74:=Qfs he hn.2
  have HPP:=hid (fun W=>QdJ size n W hgeo)
  have he2:eachC size≤4096:=by
    have h1:=(QX hgeo).2
    have h2:=Su.QR hgeo
    have h3:=hgeo.2.1
    omega
  have HBAD:=hid (fun q=>Qkp (ps:=ps) hgeo hp q)
  have HTWO:=hid (fun q=>Qkq (ps:=ps) hgeo hp q)
  have hpos:0<piecesC n (eachC size):=(Qaj n _ 0 (by omega)).2 (by omega)
  obtain⟨each,hea⟩:∃each,eachC size=each:=⟨_,rfl⟩
  rw[hea]at hp HPP he hp74 he2 HBAD HTWO hpos
  have HCH:=hid (fun a c W=>Qe4 a n c each W (by omega))
  have HRS:=hid (fun k hk hl=>Qjw (n:=n) (each:=each) (by omega) hp (N0:=N0) k hk hl)
  have HRE:=hid (QkO (n:=n) (each:=each) (by omega) hp (N0:=N0) hln)
  have HRL:=hid (fun k hk hl=>QkP (n:=n) (each:=each) (by omega) hp (N0:=N0) hln k hk hl)
  have HRZ:=hid (Qjx n each ps N0)
  have HPE:=hid hp
  obtain⟨p,hpp⟩:∃p,ps.length=p:=⟨_,rfl⟩
  rw[hpp]at hp hs ⊢
  rw[←hp]at hp74 hpos
  have HPP2:=hid hpp
  have HPQ:=hid hp
  have HLT:Hid (∀ad,a=some ad→ad.block<w.heap.size):=hid (fun ad had=>by
    have h1:=hs.at_ ad had 0 _ (by rw[List.getElem?_map,List.getElem?_eq_getElem (by omega)];rfl)
    have h2:=World.block_lt_of_cell? w _ h1
    rwa [block_add]at h2)
  have hanone:a≠none:=fun e=>by have:=(hs.nil_ e).1;omega
  obtain⟨⟨ag,ao,asp⟩,rfl⟩:=Option.ne_none_iff_exists'.1 hanone
  obtain⟨ag',ao',e1,hcells⟩:=hs.addr (by omega)
  obtain rfl:asp=none:=by cases e1;rfl
  obtain rfl:ag=ag':=by cases e1;rfl
  obtain rfl:ao=ao':=by cases e1;rfl
  have hle:=hs.le
  have HCE:=hid hcells
  have HAG:Hid (ag≠h∧ag<w.heap.size):=hid ⟨hah _ rfl,HLT.out _ rfl⟩
  have HC:=hid hc
  have hc0:=hc.cells.1
  have hc1:=hc.cells.2.1
  rw[hln]at hc1
  have HLN:=hid hln
  have HB:=hid hb
  have HEA:=hid hea
  clear hc hpp hea hln hs hb hah hanone e1 hcells HLT hp
  refine(callsIn_wide (n:=3)).1 ?_
  refine callsIn_of_wp_marks Tryz.func126 rfl trivial ?_ rfl
  simp only[Tryz.ntmps126,List.size_toArray,List.length_cons,List.length_nil,Nat.reduceAdd,Nat.reduceSub,Array.replicate_succ,Array.replicate_zero,List.push_toArray,List.append_toArray,List.nil_append,List.cons_append]
  refine wpIn_wide.2 ?_
  go_wp2
  have HX3:Hid (Boxed (((w.alloc (.cells #[.slice (some ⟨ag,ao,none⟩) p pc] 49)).alloc (.cells #[.bool false] 4)).alloc (.cells #[.int .i64 0] 3)) w.heap.size 49 (.slice (some ⟨ag,ao,none⟩) p pc) ∧
      Boxed (((w.alloc (.cells #[.slice (some ⟨ag,ao,none⟩) p pc] 49)).alloc (.cells #[.bool false] 4)).alloc (.cells #[.int .i64 0] 3)) (w.heap.size+1) 4 (.bool false) ∧
      Boxed (((w.alloc (.cells #[.slice (some ⟨ag,ao,none⟩) p pc] 49)).alloc (.cells #[.bool false] 4)).alloc (.cells #[.int .i64 0] 3)) (w.heap.size+1+1) 3 (.int .i64 ((0:Nat):Int))):=hid (by
    have q1:=Boxed.new w 49 (.slice (some ⟨ag,ao,none⟩) p pc)
    have q2:=Boxed.new (w.alloc (.cells #[.slice (some ⟨ag,ao,none⟩) p pc] 49)) 4 (.bool false)
    have q3:=Boxed.new ((w.alloc (.cells #[.slice (some ⟨ag,ao,none⟩) p pc] 49)).alloc (.cells #[.bool false] 4)) 3 (.int .i64 0)
    simp only[World.size_alloc]at q2 q3
    exact⟨(q1.alloc _).alloc _,q2.alloc _,q3⟩)
  have HG3:Hid (w.grownBy (((w.alloc (.cells #[.slice (some ⟨ag,ao,none⟩) p pc] 49)).alloc (.cells #[.bool false] 4)).alloc (.cells #[.int .i64 0] 3)) none):=hid (Qa (Qa (Qb _ _) (Qb _ _)) (Qb _ _))
  have hz3:(((w.alloc (.cells #[.slice (some ⟨ag,ao,none⟩) p pc] 49)).alloc (.cells #[.bool false] 4)).alloc (.cells #[.int .i64 0] 3)).heap.size=w.heap.size+3:=by simp[World.size_alloc]
  obtain⟨W3,hW3⟩:∃X,((w.alloc (.cells #[.slice (some ⟨ag,ao,none⟩) p pc] 49)).alloc (.cells #[.bool false] 4)).alloc (.cells #[.int .i64 0] 3)=X:=⟨_,rfl⟩
  rw[hW3]at HX3 HG3 hz3 ⊢
  have HZ3:=hid hz3
  have b0:=(Qc HG3.out).cell hc0 id
  have b1:=(Qc HG3.out).cell hc1 id
  have b2:=(HC.out.old HG3.out).cells.2.2.1
  rw[HLN.out]at b2
  clear hW3 hc0 hc1 hz3
  have HD3:=hid (Qn W3)
  go_region_held3 (fun w'=>w'.cell? ⟨g,0,none⟩=some (.int .i64 size)∧w'.cell? ⟨g,1,none⟩=some (.int .i64 (n:Int))∧w'.cell? ⟨g,2,none⟩=some (.slice (some ⟨h,0,none⟩) n cap)) (go_keep)
    (first
      | (go_at_call 120
         (with_reducible refine(HPP.out _).mono ?_)
         rintro e w4 ⟨rfl,hg4⟩
         have HG4:=hid (Qa HD3.out hg4)
         have k0:=(Qc HG4.out).cell b0 id
         have k1:=(Qc HG4.out).cell b1 id
         have k2:=(Qc HG4.out).cell b2 id
         clear hg4)
      | (go_at_call 119
         (with_reducible refine(HCH.out _ _ _).mono ?_)
         rintro e w5 ⟨rfl,hw5⟩
         have HG5:Hid (W3.grownBy w5 none):=hid (by rw[hw5];exact Qa HG4.out (Qa (Qb _ _) (Qb _ _)))
         have HW5:=hid hw5
         have k0:=(Qc HG5.out).cell b0 id
         have k1:=(Qc HG5.out).cell b1 id
         have k2:=(Qc HG5.out).cell b2 id
         clear hw5)
      |fail)
  go_wp2
  refine(wpIn_wide (n:=3)).1 ?_
  have HSZ:Hid (w.heap.size+3≤w4.heap.size∧w5.heap.size=w4.heap.size+2):=hid (by
    refine⟨?_,?_⟩
    · have:=HG4.out.size;have:=HZ3.out;omega
    · rw[HW5.out];simp[World.size_alloc])
  have HA5:Hid (w5.cell? ⟨w4.heap.size,0,none⟩=some (.slice (some ⟨h,0,none⟩) n cap)∧w5.cell? ⟨w4.heap.size+1,0,none⟩=some (.int .i64 each)):=hid (by
    have q1:=Boxed.new w4 133 (.slice (some ⟨h,0,none⟩) n cap)
    have q2:=Boxed.new (w4.alloc (.cells #[.slice (some ⟨h,0,none⟩) n cap] 133)) 3 (.int .i64 each)
    rw[World.size_alloc]at q2
    rw[HW5.out]
    exact⟨(q1.alloc _).cell,q2.cell⟩)
  have HGW5:=hid (Qa HG3.out HG5.out)
  have HC5:=hid (HC.out.old HGW5.out)
  have HX5:Hid (Boxed w5 w.heap.size 49 (.slice (some ⟨ag,ao,none⟩) p pc)∧Boxed w5 (w.heap.size+1) 4 (.bool false)∧Boxed w5 (w.heap.size+1+1) 3 (.int .i64 ((0:Nat):Int))):=hid ⟨HX3.out.1.kept HG5.out (fun e=>by cases e),HX3.out.2.1.kept HG5.out (fun e=>by cases e),HX3.out.2.2.kept HG5.out (fun e=>by cases e)⟩
  have HGL:=hid (⟨HC.out.glt,HC.out.lt,HC.out.ne⟩:g<w.heap.size∧h<w.heap.size∧g≠h)
  have hncap:n≤cap:=by have:=HC.out.le;rw[HLN.out]at this;exact this
  clear b0 b1 b2 k0 k1 k2
  refine QbB         rfl (by decide) (gf:=140) (first:=#[]) (lb:=#[.pointer (some ⟨w4.heap.size,0,none⟩),.pointer (some ⟨w4.heap.size+1,0,none⟩)]) rfl trivial (enters_of Tryz.func140 (by kernel_rfl) rfl)
    (QdB 2 (by decide) (fun i=>i=w4.heap.size∨i=w4.heap.size+1) w4.heap.size (w4.heap.size+1) h n cap each w5 HA5.out.1 HA5.out.2 (.inl rfl) (.inr rfl) (fun i hi=>by have:=HSZ.out;omega) hn.2 hncap ⟨by omega,he2⟩) (Below.refl _ _) (fun h k=>Kept.t h k) (Kept.b (fun i hi=>by have:=HSZ.out;omega)) (fun _=>rfl)
    (fun k W=>(Boxed W w.heap.size 49 (.slice (some ⟨ag,ao,none⟩) p pc)∧Boxed W (w.heap.size+1) 4 (.bool false)∧Boxed W (w.heap.size+1+1) 3 (.int .i64 (k:Int)))∧CC W g h cap size (rowK n each ps N0 k)∧Turn w W (·=h)∧LensOk n each ps k)
    (fun c W=>c=.ret∧Boxed W (w.heap.size+1) 4 (.bool false)∧Turn w W (·=h)∧(loadC size n ps).2=4)
    (fun k W W' row ⟨⟨q1,q2,q3⟩,q4,q5,q6⟩ hg hr=>by
      have hsz:=HSZ.out
      have hgl:=HGL.out
      have hne:∀i,i<w5.heap.size→some i≠row:=fun i hi e=>by have:=(hr i e.symm).1;omega
      have ht:=Turn.Qf hg (S:=fun i=>w5.heap.size≤i) (fun i e _=>(hr i e).1)
      exact⟨⟨q1.kept hg (hne _ (by omega)),q2.kept hg (hne _ (by omega)),q3.kept hg (hne _ (by omega))⟩,q4.turn ht (by show ¬w5.heap.size≤g;omega) (by show ¬w5.heap.size≤h;omega),q5.trans (Turn.Qf hg (S:=fun i=>w5.heap.size≤i) (fun i e _=>(hr i e).1)) (fun i hi e=>by have e2:w5.heap.size≤i:=e;omega),q6⟩)
    (fun c k W W' row ⟨q1,q2,q3,q4⟩ hg hr=>by
      have hsz:=HSZ.out
      have hne:∀i,i<w5.heap.size→some i≠row:=fun i hi e=>by have:=(hr i e.symm).1;omega
      exact⟨q1,q2.kept hg (hne _ (by omega)),q3.trans (Turn.Qf hg (S:=fun i=>w5.heap.size≤i) (fun i e _=>(hr i e).1)) (fun i hi e=>by have e2:w5.heap.size≤i:=e;omega),q4⟩)
    ⟨HX5.out,by rw[HRZ.out];exact HC5.out,(Qc HGW5.out).mono (fun _ _ e=>e.elim),fun j hj=>by omega⟩
    (fun k=>{ tmps:=#[.pointer (some ⟨g,0,none⟩),.slice (some ⟨ag,ao,none⟩) p pc,undef,.pointer (some ⟨w.heap.size,0,none⟩),.pointer (some ⟨w.heap.size+1,0,none⟩),.pointer (some ⟨w.heap.size+1+1,0,none⟩),.slice (some ⟨h,k*each,none⟩) (pieceL n each k) (pieceL n each k),undef,undef,.pointer (some ⟨g,0,none⟩),.pointer (some ⟨g,0,none⟩),.pointer (some ⟨g,2,none⟩),.slice (some ⟨h,0,none⟩) n cap,.pointer (some ⟨g,0,none⟩),.pointer (some ⟨g,0,none⟩),.pointer (some ⟨g,0,none⟩),.agg #[.int .i64 size,.int .i64 n],.int .i64 each,
      .func (.func 140) #[] #[.pointer (some ⟨w4.heap.size,0,none⟩),.pointer (some ⟨w4.heap.size+1,0,none⟩)],.slice (some ⟨h,k*each,none⟩) (pieceL n each k) (pieceL n each k),undef,undef,undef,undef,undef,undef,undef,undef,undef,undef,undef,undef,undef,undef,undef,undef,undef,undef,undef,undef,undef,undef,undef,undef,undef,undef,undef,undef,undef,undef],defers:=[] }) ?assign ?body ?done ?stop
  case assign=>
    intro l k W K hK
    unfold encP
    gi_wp2
    exact hK
  case stop=>
    rintro D c W hD ⟨rfl,q1,q2,q3⟩ hK
    have hsz:=HSZ.out
    have HF:Hid (FillX g h cap size n ps w (.returned (.bool false)) (W.putObj D (.deferred none))):=hid ⟨q2.trans (Turn.Qf (grownBy_putObj' W D (.deferred none)) (S:=(·=D)) (fun i e _=>by cases e;rfl)) (fun i hi e=>by have e2:i=D:=e;omega),.inr ⟨rfl,q3⟩⟩
    have q4:Boxed (W.putObj D (.deferred none)) (w.heap.size+1) 4 (.bool false):=q1.kept (grownBy_putObj' W D (.deferred none)) (fun e=>by have:=Option.some.inj e;omega)
    clear q1 q2 q3
    dsimp only
    gi_wp2
    refine⟨by simp,.inl ⟨_,_,rfl,run_takeDeferred hK,?_⟩⟩
    refine⟨_,Qcv rfl _ _ _ _ rfl q4,?_⟩
    exact HF.out
  case body=>
    rintro y k W hk ⟨⟨q1,q2,q3⟩,q4,q5,q6⟩
    have hsz:=HSZ.out
    have hgl:=HGL.out
    have hkn:k*each<n:=(Qaj n each k (by omega)).1 hk
    have hkp:k<p:=by rw[HPQ.out];exact hk
    have cS:=q5.cell (HCE.out k hkp) HAG.out.1
    have c3:=q1.cell
    have c5:=q3.cell
    have f4:=q2.frozen
    have c4:=q2.cell
    have f5:=q3.frozen
    have hmem:ps.getD k []∈ps:=by
      rw[List.getD_eq_getElem?_getD,List.getElem?_eq_getElem (by rw[HPP2.out];exact hkp)]
      exact List.getElem_mem _
    have hbk:=HB.out _ hmem
    have hq4096:pieceL n each k≤4096:=by unfold pieceL;omega
    have HRD:=hid (fun(hL:(ps.getD k []).length=2*pieceL n each k)=>Qb8 h cap (rowK n each ps N0 k) (k*each) (pieceL n each k) (pieceL n each k) (ps.getD k []) W ⟨q4.row,q4.le,q4.capm,q4.lt⟩ (by rw[HRL.out k (by omega) q6];unfold pieceL;omega) q4.small hbk.1 hL (Nat.le_refl _))
    have HRK:=hid (fun(hL:(ps.getD k []).length=2*pieceL n each k)=>HRS.out k hk (fun j hj=>by
      by_cases e:j=k
      · rw[e];exact hL
      · exact q6 j (by omega)))
    have HLK:=hid (fun(hL:(ps.getD k []).length=2*pieceL n each k)=>(fun j hj=>by
      by_cases e:j=k
      · rw[e];exact hL
      · exact q6 j (by omega):LensOk n each ps (k+1)))
    have HLB:Hid ((ps.getD k []).length≠2*pieceL n each k→(loadC size n ps).2=4):=hid (fun hL=>by rw[HBAD.out (fun q=>hL (q k hk))])
    have hlen:(strOfNums (ps.getD k [])).size=(ps.getD k []).length:=strOfNums_size _
    have hlmax:=hbk.2
    have Q1:=hid q1
    have Q2:=hid q2
    have Q3:=hid q3
    have Q4:=hid q4
    have Q5:=hid q5
    have Q6:=hid q6
    have HKN:=hid (⟨hk,hkp⟩:k<piecesC n each∧k<p)
    obtain⟨o,hoo⟩:∃o,k*each=o:=⟨_,rfl⟩
    obtain⟨q,hqq⟩:∃q,pieceL n each k=q:=⟨_,rfl⟩
    obtain⟨pk,hpk⟩:∃pk,ps.getD k []=pk:=⟨_,rfl⟩
    rw[hoo,hqq,hpk]at HRD HRK
    rw[hqq,hpk]at HLK HLB
    rw[hpk]at cS hlen hlmax
    rw[hqq]at hq4096
    rw[hoo,hqq]
    obtain⟨S,hS⟩:∃S,strOfNums pk=S:=⟨_,rfl⟩
    rw[hS]at cS hlen HRD
    obtain⟨ln,hln⟩:∃l,pk.length=l:=⟨_,rfl⟩
    rw[hln]at hlen hlmax HRD HRK HLK HLB
    obtain⟨q2',hq2⟩:∃x,2*q=x:=⟨_,rfl⟩
    rw[hq2]at HRD HRK HLK HLB
    have e1:2*(q:Int)=(q2':Int):=by omega
    have e2:IntKind.i64.wrap (q2':Int)=(q2':Int):=IntWalk.i64_in _ (by omega)
    have hk74:k<74:=by omega
    clear hoo hqq hpk hS hln hq2 hmem hbk q1 q2 q3 q4 q5 q6 hk hkn
    by_cases hL:ln=q2'
    · have k1:((ln:Int) != (q2':Int))=false:=by subst hL;simp
      have HRD2:=hid (HRD.out hL)
      have HRK2:=hid (HRK.out hL)
      have HLK2:=hid (HLK.out hL)
      clear hL HRD HRK HLK HLB
      gi_wp2_with (first|(refine⟨trivial,?_⟩;gi_at_call 146;refine(CallsIn.inRound _ (callsIn_wide.2 HRD2.out)).mono ?_;rintro e w6 ⟨⟨v,rfl⟩,hu,ht⟩;have HU6:=hid hu;have HT6:=hid ht;have c5':=HT6.out.cell c5 (by show ¬w.heap.size+1+1=h;omega);have f5':=(Qcb Q3.out HT6.out (by show ¬w.heap.size+1+1=h;omega)).frozen;clear hu ht)|fail)
      have HT7:Hid (Turn W (w6.setCell ⟨w.heap.size+1+1,0,none⟩ (.int .i64 ((k:Int)+1))) (fun i=>i=h∨i=w.heap.size+1+1)):=hid ((HT6.out.mono (fun _ _ e=>.inl e):Turn W w6 (fun i=>i=h∨i=w.heap.size+1+1)).trans (Turn.setCell w6 _ _ (S:=(·=w.heap.size+1+1)) rfl) (fun _ _ e=>.inr e))
      have hlr:=HRL.out k (by have:=HKN.out.1;omega) Q6.out
      have hlr2:=HRL.out (k+1) (by have:=HKN.out.1;omega) HLK2.out
      refine⟨QaS HT7.out (fun i e=>by omega),HT7.out.mono (fun i _ e=>by show ¬(i=w4.heap.size∨i=w4.heap.size+1);omega),⟨Qcb Q1.out HT7.out (by omega),Qcb Q2.out HT7.out (by omega),?_⟩,?_,?_,HLK2.out⟩
      · have:=(Qcb      Q3.out HT6.out (by omega)).set (.int .i64 ((k:Int)+1))
        rw[show(((k+1:Nat):Int))=(k:Int)+1 by omega]
        exact this
      · have hcc:=QjV      Q4.out HT6.out HU6.out (by rw[HRK2.out,hlr,hlr2])
        rw[HRK2.out]at hcc
        exact hcc.turn (Turn.setCell w6 _ _ (S:=(·=w.heap.size+1+1)) rfl) (by omega) (by omega)
      · exact Qc0 (Q5.out.trans HT6.out (fun _ _ e=>e)) (Turn.setCell w6 _ _ (S:=(·=w.heap.size+1+1)) rfl) (by omega)
    · have k1:((ln:Int) != (q2':Int))=true:=bne_iff_ne.2 (fun e=>hL (by omega))
      have HLB2:=hid (HLB.out hL)
      clear hL HRD HRK HLK HLB
      gi_wp2
      refine⟨QaS (Turn.setCell W _ _ (S:=(·=w.heap.size+1)) rfl) (fun i e=>by omega),rfl,Q2.out.set _,Qc0 Q5.out (Turn.setCell W _ _ (S:=(·=w.heap.size+1)) rfl) (by omega),HLB2.out⟩
  case done =>
    rintro D W hD ⟨⟨q1,q2,q3⟩,q4,q5,q6⟩ hK
    have hsz:=HSZ.out
    have hgl:=HGL.out
    rw[HRE.out]at q4
    have hMl:(cntsB n ps.flatten).length=n:=by rw[←HRE.out];exact HRL.out _ (Nat.le_refl _) q6
    have HLD:=hid (HTWO.out q6)
    obtain⟨M,hM⟩:∃M,cntsB n ps.flatten=M:=⟨_,rfl⟩
    rw[hM]at q4 hMl HLD
    have c2:=q4.cells.2.2.1
    rw[hMl]at c2
    have f4:=q2.frozen
    have c4:=q2.cell
    have HEL:Hid (∀j,j<n→W.cell? ⟨h,j,none⟩=some (.int .u16 (M.getD j 0))):=hid (fun j hj=>(q4.row j (by rw[hMl];exact hj)).1)
    have Q2:=hid q2
    have Q4:=hid q4
    have Q5:=hid q5
    have hcap2:¬cap<2:=by omega
    -- how it ends
    have HFIN:Hid (∀b:Bool,((b=true∧(loadC size n ps).2=0∧(loadC size n ps).1=M)∨(b=false∧(loadC size n ps).2=4))→FillX g h cap size n ps w (.returned (.bool b)) ((W.setCell ⟨w.heap.size+1,0,none⟩ (.bool b)).putObj D (.deferred none)) ∧
        Boxed ((W.setCell ⟨w.heap.size+1,0,none⟩ (.bool b)).putObj D (.deferred none)) (w.heap.size+1) 4 (.bool b)∧(W.setCell ⟨w.heap.size+1,0,none⟩ (.bool b)).heap[D]?=some (.deferred (some []))):=hid (fun b hbb=>by
      have t1:=Turn.setCell W ⟨w.heap.size+1,0,none⟩ (.bool b) (S:=(·=w.heap.size+1)) rfl
      have t2:=Turn.Qf (grownBy_putObj' (W.setCell ⟨w.heap.size+1,0,none⟩ (.bool b)) D (.deferred none)) (S:=(·=D)) (fun i e _=>by cases e;rfl)
      have t3:=Qc0 (Qc0 Q5.out t1 (by omega)) t2 (by omega)
      have hDlt:D<W.heap.size:=(Array.getElem?_eq_some_iff.1 hK).1
      refine⟨⟨t3,?_⟩,Qcb (Q2.out.set _) t2 (by show ¬w.heap.size+1=D;omega),(t1.block D hDlt (by show ¬D=w.heap.size+1;omega)).trans hK⟩
      rcases hbb with ⟨rfl,h2,h3⟩|⟨rfl,h2⟩
      · exact .inl ⟨rfl,h2,by rw[h3];exact(Q4.out.turn t1 (by show ¬g=w.heap.size+1;omega) (by show ¬h=w.heap.size+1;omega)).turn t2 (by show ¬g=D;omega) (by show ¬h=D;omega)⟩
      · exact .inr ⟨rfl,h2⟩)
    clear q1 q2 q3 q4 q5 q6 hM
    gi_wp2
    go_wp2
    go_loopw [43] (fun si wr=>∃k:Nat,k≤2∧si=.int .i64 k∧Hid (∀j,j<k→M.getD j 0=1)∧W=wr) (fun si _=>2-(intOf si).toNat)
    case atStart=>exact⟨0,by omega,rfl,hid (fun j hj=>by omega),rfl⟩
    case round=>
      obtain⟨k,hk,rfl,HK1,rfl⟩:=hrel
      by_cases hlt:k<2
      · have hq:decide (k<2)=true:=decide_eq_true hlt
        have hq2:decide ((k:Int)<2)=true:=decide_eq_true (by omega)
        have hcell:=HEL.out k (by omega)
        by_cases h1:M.getD k 0=1
        · have HK2:Hid (∀j,j<k+1→M.getD j 0=1):=hid (fun j hj=>by
            by_cases e:j=k
            · rw[e];exact h1
            · exact HK1.out j (by omega))
          rw[h1]at hcell
          clear HK1 h1
          go_wp2
          go_roundw
          case rel=>exact⟨k+1,by omega,by go_num,HK2,trivial⟩
          case measure=>simp[intOf];omega
        · have HBD:Hid ((loadC size n ps).2=4):=hid (by
            rw[HLD.out,if_pos]
            rcases(show k=0∨k=1 by omega) with rfl|rfl
            · exact .inl h1
            · exact .inr h1)
          obtain⟨hF,hB4,hD4⟩:=HFIN.out false (.inr ⟨rfl,HBD.out⟩)
          have HF:=hid hF
          obtain⟨x,hx⟩:∃x,M.getD k 0=x:=⟨_,rfl⟩
          rw[hx]at h1 hcell
          have k1:(x != 1)=true:=bne_iff_ne.2 h1
          clear hx h1 HK1 hF
          go_wp2
          refine⟨by simp,.inl ⟨_,_,rfl,run_takeDeferred hD4,?_⟩⟩
          refine⟨_,Qcv rfl _ _ _ _ rfl hB4,?_⟩
          exact HF.out
      · have hq:decide (k<2)=false:=decide_eq_false hlt
        have hq2:decide ((k:Int)<2)=false:=decide_eq_false (by omega)
        obtain rfl:k=2:=by omega
        have hgd:loadC size n ps=(M,0):=by rw[HLD.out,if_neg (by rw[HK1.out 0 (by omega),HK1.out 1 (by omega)];rintro(e|e) <;> exact e rfl)]
        obtain⟨hF,hB4,hD4⟩:=HFIN.out true (.inl ⟨rfl,by rw[hgd],by rw[hgd]⟩)
        have HF:=hid hF
        clear hgd HK1 hF
        go_wp2
        refine⟨by simp,.inl ⟨_,_,rfl,run_takeDeferred hD4,?_⟩⟩
        refine⟨_,Qcv rfl _ _ _ _ rfl hB4,?_⟩
        exact HF.out
end Cn
namespace Cn
open Go.RowKit Bs Dv Gr
open Su (GeoOk pagesF)
def LoadX (w:World) (size blocks:Int) (ps:List (List Int)) (e:Ending) (w':World):Prop:=
  w.grownBy w' none∧((¬GeoOk size blocks∧e=.returned (.tuple #[.pointer none,.int .i64 2]))∨∃n:Nat,blocks=n∧GeoOk size n ∧
    (((loadC size n ps).2=4∧e=.returned (.tuple #[.pointer none,.int .i64 4])) ∨
     ((loadC size n ps).2=0∧∃g h cap,e=.returned (.tuple #[.pointer (some ⟨g,0,none⟩),.int .i64 0])∧CC w' g h cap size (loadC size n ps).1∧w.heap.size≤g∧w.heap.size≤h)))
theorem Qib{size:Int}{n:Nat}(h:GeoOk size n){ps:List (List Int)}(hp:(ps.length:Int)≠pagesF size n):loadC size n ps=([],4):=by
 unfold loadC;rw[if_neg (fun k=>k h),if_pos hp]
theorem QdX(size blocks:Int)(a:Option Addr)(m pc:Nat)(ps:List (List Int))(w:World)(hs:Ss.Seg w a m pc ps)(hb:∀p∈ps,IsB p∧p.length≤140737488355328) :
  Calls Tryz.prog 102 #[.agg #[.int .i64 size,.int .i64 blocks],.slice a m pc] w (LoadX w size blocks ps):=by
 obtain rfl:ps.length=m:=hs.len;have HB0:=hid (heap_alloc_new w (.cells #[.int .i64 size,.int .i64 blocks] 28));have HG0:=hid (Qb w (.cells #[.int .i64 size,.int .i64 blocks] 28));obtain⟨W0,hW0⟩:∃X,w.alloc (.cells #[.int .i64 size,.int .i64 blocks] 28)=X:=⟨_,rfl⟩;rw[hW0]at HB0 HG0;have HW0:=hid hW0;have hlm:(ps.length:Int)≤9223372036854775807:=by
  have h1:=hs.le;have h2:=hs.cap;unfold maxLen at h2;omega
 by_cases hok:GeoOk size blocks
 case neg=>
  have HNO:=hid (Qgm size blocks W0 hok);have HOK:=hid hok;clear hok hW0 hlm;go_enter Tryz.func102,Tryz.ntmps102
  go_upto_region 1 with (fail)
  rw[HW0.out];have c0:W0.cell? ⟨w.heap.size,0,none⟩=some (.int .i64 size):=by rw[cell_of_row _ _ _ _ _ _ HB0.out];rfl
  have c1:W0.cell? ⟨w.heap.size,1,none⟩=some (.int .i64 blocks):=by rw[cell_of_row _ _ _ _ _ _ HB0.out];rfl
  go_wp2_with fail
  refine HNO.out.mono ?_;rintro e w2 ⟨rfl,hg⟩;have HF:Hid (LoadX w size blocks ps (.returned (.tuple #[.pointer none,.int .i64 2])) w2):=hid ⟨Qa HG0.out hg,.inl ⟨HOK.out,rfl⟩⟩;clear hg;dsimp only;go_wp2;go_ret2
  exact HF.out
 case pos=>
 obtain⟨n,rfl⟩:∃n:Nat,blocks=n:=Int.eq_ofNat_of_zero_le (by unfold GeoOk at hok;omega);have HNW:=hid (fun W (k:W0.grownBy W none)=>Qdy size n W0 W k hok);have HPG:=hid (fun W=>Su.Qah size n W);have hpb:=Su.QB hok;have hpp:=(QaQ hok (List.replicate n 0) (by rw[List.length_replicate])).2;have HLC:=hid (fun(q:(ps.length:Int)≠pagesF size n)=>Qib (ps:=ps) hok q);have HS:=hid (hs.grown HG0.out);have HLT:Hid (0<ps.length→∀ad,a=some ad→ad.block<W0.heap.size):=hid (fun h0 ad had=>by
  have h1:=HS.out.at_ ad had 0 _ (by rw[List.getElem?_map,List.getElem?_eq_getElem (by omega)];rfl);have h2:=World.block_lt_of_cell? W0 _ h1
  rwa [block_add]at h2)
 have HFI:=hid (fun g h cap W (k:CC W g h cap size (newC n)) (s:Ss.Seg W a ps.length pc ps) (q:ps.length=piecesC n (eachC size)) r=>fill_any g h cap size n (newC n) a pc ps W k (Qgn hok).len hok s hb q r);have HOK:=hid hok;have HPP:=hid hpp;have hpos:0<piecesC n (eachC size):=(Qaj n _ 0 (by have:=(QX hok).1;omega)).2 (by unfold GeoOk at hok;omega);have HPOS:=hid hpos;obtain⟨P,hP⟩:∃P,pagesF size n=P:=⟨_,rfl⟩;rw[hP]at HPG HLC HPP;clear hok hW0 hs hb hP hpp hpb hpos;go_enter Tryz.func102,Tryz.ntmps102
 go_upto_region 1 with (fail)
 rw[HW0.out];have c0:W0.cell? ⟨w.heap.size,0,none⟩=some (.int .i64 size):=by rw[cell_of_row _ _ _ _ _ _ HB0.out];rfl
 have c1:W0.cell? ⟨w.heap.size,1,none⟩=some (.int .i64 (n:Int)):=by rw[cell_of_row _ _ _ _ _ _ HB0.out];rfl
 go_wp2_with fail
 refine(HNW.out _ (QaR _)).mono ?_;rintro e w2 ⟨g,h,cap,rfl,hc,hg,hlg,hlh⟩;have HC2:=hid hc;have HB2:=hid (Qd HB0.out hg);have HS2:=hid (HS.out.grown hg);have HL2:=hid (⟨hlg,hlh⟩:W0.heap.size≤g∧W0.heap.size≤h);have d0:w2.cell? ⟨w.heap.size,0,none⟩=some (.int .i64 size):=by rw[cell_of_row _ _ _ _ _ _ HB2.out];rfl
 have d1:w2.cell? ⟨w.heap.size,1,none⟩=some (.int .i64 (n:Int)):=by rw[cell_of_row _ _ _ _ _ _ HB2.out];rfl
 clear hc hg hlg hlh c0 c1;dsimp only;go_wp2_with fail
 refine(HPG.out _).mono ?_;rintro e w3 ⟨rfl,hg⟩;have HC3:=hid (HC2.out.old hg);have HS3:=hid (HS2.out.grown hg);clear hg d0 d1 HC2 HS2 HB2;dsimp only;by_cases hpq:(ps.length:Int)=P
 ·have k1:((ps.length:Int) != P)=false:=by rw[hpq];simp
  have HEQ:Hid (ps.length=piecesC n (eachC size)):=hid (by have:=HPP.out;omega);have HFC:=hid (HFI.out g h cap w3 HC3.out.cc HS3.out HEQ.out (fun ad had e=>by have h1:=HLT.out (by rw[HEQ.out];exact HPOS.out) ad had;have h2:=HL2.out.2;omega));obtain⟨ln,hln⟩:∃l,ps.length=l:=⟨_,rfl⟩;rw[hln]at HFC k1 hpq hlm ⊢;clear hln hpq;go_wp2_with fail
  refine HFC.out.mono ?_;rintro e w4 ⟨ht,⟨rfl,h0,hcc⟩|⟨rfl,h4⟩⟩
  ·have HF:Hid (LoadX w size n ps (.returned (.tuple #[.pointer (some ⟨g,0,none⟩),.int .i64 0])) w4):=hid ⟨Qa HG0.out (Qh HC3.out.gr ht HL2.out.2),.inr ⟨n,rfl,HOK.out,.inr ⟨h0,g,h,cap,rfl,hcc,Nat.le_trans HG0.out.size HL2.out.1,Nat.le_trans HG0.out.size HL2.out.2⟩⟩⟩;clear ht h0 hcc;dsimp only;go_wp2;go_ret2
   exact HF.out
  ·have HF:Hid (LoadX w size n ps (.returned (.tuple #[.pointer none,.int .i64 4])) w4):=hid ⟨Qa HG0.out (Qh HC3.out.gr ht HL2.out.2),.inr ⟨n,rfl,HOK.out,.inl ⟨h4,rfl⟩⟩⟩;clear ht h4;dsimp only;go_wp2;go_ret2
   exact HF.out
 ·have k1:((ps.length:Int) != P)=true:=bne_iff_ne.2 hpq;have HF:Hid (LoadX w size n ps (.returned (.tuple #[.pointer none,.int .i64 4])) w3):=hid ⟨Qa HG0.out HC3.out.gr,.inr ⟨n,rfl,HOK.out,.inl ⟨by rw[HLC.out hpq],rfl⟩⟩⟩;obtain⟨ln,hln⟩:∃l,ps.length=l:=⟨_,rfl⟩;rw[hln]at k1 hpq hlm ⊢;clear hln hpq;go_wp2;go_ret2
  exact HF.out
end Cn
end Go.Proofs.YtgffbbdcbkikhaaGreatDoor
