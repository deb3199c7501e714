/- Parts of the proof. -/
import Derived.Lib.Walk
import Derived.Test.YtgffbbdcbkikhaaGreatDoorKbJ
set_option maxRecDepth 100000
set_option maxHeartbeats 8000000
open Go.Lib (hid)
namespace Go.Proofs.YtgffbbdcbkikhaaGreatDoor
namespace Sg
open Go.RowKit Bs Dv
theorem QgI:(Tryz.prog.info? 75).map (·.size)=some 2:=by kernel_rfl
theorem Qkn:liesAt Tryz.prog Tryz.prog.depth 75 (2 / Tryz.prog.cellsOf 75) 0 75 1=true:=by kernel_rfl
theorem QiY:(Tryz.prog.info? 5).map (fun i=>(i.zero,i.size,i.bytes))=some (some (.int .u8 0),1,1):=by kernel_rfl
theorem QhL:∃i,Tryz.prog.info? 5=some i∧i.zero=some (.int .u8 0)∧i.size=1∧i.bytes=1:=by
 have h:=QiY;cases hq:Tryz.prog.info? 5 with
 |none=>rw[hq]at h;cases h
 |some i=>
  rw[hq]at h;simp only[Option.map_some,Option.some.injEq,Prod.mk.injEq]at h;exact⟨i,rfl,h.1,h.2.1,h.2.2⟩
theorem QhN(b:Nat)(w:World)(h0:w.cell? ⟨b,0,none⟩=some (.pointer (some ⟨b,0,none⟩))) :
  Calls Tryz.prog 79 #[.pointer (some ⟨b,0,none⟩)] w fun e w'=>e=.returned (.tuple #[])∧w'=w:=by
 obtain⟨j,hj,_⟩:=Option.map_eq_some_iff.1 QgI;go_enter Tryz.func79,Tryz.ntmps79
 go_wp2;rw[Lib.run_neq_ptr_same w _ Tryz.underlying73 hj];go_wp2
 go_end0
 exact⟨rfl,rfl⟩
theorem QgT(b:Nat)(w:World)(h0:w.cell? ⟨b,0,none⟩=some (.pointer none))(hsh:w.shape? b=some (75,2))(hfz:w.frozen? ⟨b,0,none⟩=false) :
  Calls Tryz.prog 79 #[.pointer (some ⟨b,0,none⟩)] w fun e w'=>e=.returned (.tuple #[])∧w'=w.setCell ⟨b,0,none⟩ (.pointer (some ⟨b,0,none⟩)):=by
 obtain⟨j,hj,hjs⟩:=Option.map_eq_some_iff.1 QgI;go_enter Tryz.func79,Tryz.ntmps79
 go_wp2;rw[Lib.run_to_unsafe w ⟨b,0,none⟩ Tryz.underlying73 Tryz.underlying173 hj (by rw[hjs];decide) hsh (Nat.zero_lt_succ 1)];simp only[Result.andThen];rw[Oper.upon_value];go_wp2;rw[run_callFunc_extern Tryz.func111 (by kernel_rfl) (by kernel_rfl) (by kernel_rfl) (e:=Extern.AbiNoEscape.same) (by kernel_rfl)];rw[Lib.run_noEscape];simp only[Result.andThen];rw[Oper.upon_value];go_wp2;rw[Lib.run_from_unsafe w ⟨b,0,none⟩ Tryz.underlying173 Tryz.underlying73 hj hsh Qkn];simp only[Result.andThen];rw[Oper.upon_value];go_wp2
 go_end0
 exact⟨rfl,rfl⟩
theorem QbT{w:World}{b:Nat}{o:Obj}(h:w.heap[b]?=some o):b<w.heap.size:=(Array.getElem?_eq_some_iff.1 h).1
theorem Qbf{w:World}{B:Nat}{v:Value}{n:Nat}{bs:List Value}(h:w.ownsRow B 5 1 v n bs):∀g,v.ownBlock=some g→B≤g∧∃cur fz,w.heap[g]?=some (.cells cur 5 fz):=by
 intro g hg;rcases h.2 with ⟨rfl,_⟩|⟨g',cap,cur,rfl,hb,hgg,_⟩
 ·simp[Value.ownBlock]at hg
 ·simp[Value.ownBlock]at hg;subst hg;exact⟨hb,cur,_,hgg⟩
theorem Qev{l:List Int}(hb:Bs.IsB l):l.map (Value.int .u8)=Lib.byteCells (l.map fun x=>UInt8.ofNat x.toNat):=by
 unfold Lib.byteCells;rw[List.map_map];refine List.map_congr_left fun x hx=>?_
 have:=hb x hx
 show Value.int .u8 x=Value.int .u8 ((UInt8.ofNat x.toNat).toNat:Int)
 rw[UInt8.toNat_ofNat']
 congr 1
 omega
theorem Qhc(l:List Int)(hb:Bs.IsB l):Lib.strCells (strOfNums l)=l.map (Value.int .u8):=by
 rw[Qev hb,Lib.strCells_eq]
 rfl
structure BdZ (w:World) (Z b:Nat) (p v:Value) (l:List Int):Prop where
 addr:p=.pointer none∨p=.pointer (some ⟨b,0,none⟩)
 box:w.heap[b]?=some (.cells #[p,v] 75 (0,0))
 row:w.ownsRow Z 5 1 v l.length (l.map (Value.int .u8))
 lt:b<Z
theorem BdZ.fresh(w:World)(Z:Nat)(hZ:w.heap.size<Z):BdZ (w.alloc (.cells #[.pointer none,.slice none 0 0] 75)) Z w.heap.size (.pointer none) (.slice none 0 0) []:=
 ⟨.inl rfl,heap_alloc_new w _,⟨rfl,.inl ⟨rfl,rfl⟩⟩,hZ⟩
theorem BdZ.stay{w w':World}{Z b:Nat}{p v:Value}{l:List Int}{S:Nat→Prop}(h:BdZ w Z b p v l)(k:Turn w w' S)(hb:¬S b)(hv:∀i,v.ownBlock=some i→¬S i):BdZ w' Z b p v l:=by
 refine⟨h.addr,(k.block b (QbT h.box) hb).trans h.box,⟨h.row.1,?_⟩,h.lt⟩;rcases h.row.2 with h2|⟨g,cap,cur,e1,h3,h4,h5⟩
 ·exact .inl h2
 ·exact .inr ⟨g,cap,cur,e1,h3,(k.block g (QbT h4) (hv g (by rw[e1];rfl))).trans h4,h5⟩
theorem checkZ{w:World}{Z b:Nat}{p v:Value}{l:List Int}(h:BdZ w Z b p v l) :
  Calls Tryz.prog 79 #[.pointer (some ⟨b,0,none⟩)] w fun e w'=>e=.returned (.tuple #[])∧BdZ w' Z b (.pointer (some ⟨b,0,none⟩)) v l∧Turn w w' (·=b):=by
 obtain⟨h1,h2,h3,h4⟩:=h;have c0:w.cell? ⟨b,0,none⟩=some p:=by rw[cell_of_row _ _ _ _ _ _ h2];rfl
 rcases h1 with rfl|rfl
 ·refine(QgT b w c0 (by simp[World.shape?,h2]) (by simp[World.frozen?,h2])).mono ?_;rintro e w' ⟨rfl,rfl⟩;have t:Turn w (w.setCell ⟨b,0,none⟩ (.pointer (some ⟨b,0,none⟩))) (·=b):=Turn.setCell w _ _ (S:=(·=b)) rfl;refine⟨rfl,⟨.inr rfl,by simp[World.setCell,Array.getElem?_modify,h2],⟨h3.1,?_⟩,h4⟩,t⟩;rcases h3.2 with h5|⟨g,cap,cur,e1,h5,h6,h7⟩
  ·exact .inl h5
  ·exact .inr ⟨g,cap,cur,e1,h5,(t.block g (QbT h6) (fun e=>by have e:g=b:=e;omega)).trans h6,h7⟩
 ·refine(QhN b w c0).mono ?_;rintro e w' ⟨rfl,rfl⟩;exact⟨rfl,⟨.inr rfl,h2,h3,h4⟩,Turn.refl _ _⟩
theorem Qiv(Z b:Nat)(p v:Value)(l m:List Int)(w:World)(h:BdZ w Z b p v l)(hBw:Z≤w.heap.size)(hm:0<m.length)(hmb:Bs.IsB m)(hlen:l.length+m.length≤140737488355328) :
  Calls Tryz.prog 37 #[.pointer (some ⟨b,0,none⟩),.string (strOfNums m)] w fun e w'=>∃p' v',e=.returned (.tuple #[.int .i64 m.length,.nilIface])∧BdZ w' Z b p' v' (l++m)∧Turn w w' (fun i=>i=b∨v.ownBlock=some i):=by
 obtain⟨i0,hi,hz0,hz1,hz2⟩:=QhL;have HC:=hid (checkZ h);have HSZ:=hid (strOfNums_size m);have HSC:=hid (Qhc m hmb);obtain⟨n,hn⟩:∃n,m.length=n:=⟨_,rfl⟩;have HN:=hid hn;rw[hn]at HSZ hm hlen;obtain⟨S,hS⟩:∃S,strOfNums m=S:=⟨_,rfl⟩;rw[hS]at HSZ HSC ⊢;rw[hn];have hss:=HSZ.out;clear hn hS h;go_enter Tryz.func37,Tryz.ntmps37
 go_wp2_with (go_at_call 79;refine HC.out.mono ?_)
 rintro e w1 ⟨rfl,h1,ht1⟩;have hsz:=ht1.size;have c0:w1.cell? ⟨b,0,none⟩=some (.pointer (some ⟨b,0,none⟩)):=by rw[cell_of_row _ _ _ _ _ _ h1.box];rfl
 have c1:w1.cell? ⟨b,1,none⟩=some v:=by rw[cell_of_row _ _ _ _ _ _ h1.box];rfl
 have HT:=hid ht1;have HO:=hid h1.row;have HK:=hid h1.box;have HL:=hid h1.lt;have HB1:Hid (Z≤w1.heap.size):=hid (by omega);clear ht1 h1 hsz;go_wp2_with (at_builtin;refine Lib.wpList_append_own_string _ rfl _ _ 46 9 rfl Z 5 i0 Tryz.underlying46 Tryz.underlying9 hi hz0 hz1 hz2 _ _ _ rfl HO.out S rfl ?c4 ?c5 ?c6 ?_)
 case c4=>rw[HSZ.out];unfold maxLen;omega
 case c5=>rw[HSZ.out];omega
 case c6=>exact HB1.out
 intro v' w2 hown' hgrow _;rw[HSC.out]at hown';have hown':w2.ownsRow Z 5 1 v' (l.length+n) (l.map (Value.int .u8)++m.map (Value.int .u8)):=by first|exact hown'|(rw[HSZ.out]at hown';exact hown')
 have hlt:b<w1.heap.size:=QbT HK.out;have hne:v.ownBlock≠some b:=fun e=>by have:=(Qbf HO.out b e).1;have:=HL.out;omega
 have hb2:w2.heap[b]?=some (.cells #[.pointer (some ⟨b,0,none⟩),v] 75 (0,0)):=by
  rw[hgrow.block b hlt (fun e=>hne e.symm)];exact HK.out
 have d0:w2.cell? ⟨b,0,none⟩=some (.pointer (some ⟨b,0,none⟩)):=by rw[cell_of_row _ _ _ _ _ _ hb2];rfl
 have d1:w2.cell? ⟨b,1,none⟩=some v:=by rw[cell_of_row _ _ _ _ _ _ hb2];rfl
 have f1:w2.frozen? ⟨b,1,none⟩=false:=by simp[World.frozen?,hb2]
 obtain⟨g2,cap,rfl⟩:∃g cap,v'=.slice (some ⟨g,0,none⟩) (l.length+n) cap:=by
  rcases hown'.2 with ⟨_,h0⟩|⟨g,cap,cur,hv,_⟩
  ·simp at h0;omega
  ·exact⟨g,cap,by simpa using hv⟩
 have hg2:Z≤g2:=(Qbf hown' g2 rfl).1;have ht4:Turn w2 (w2.setCell ⟨b,1,none⟩ (.slice (some ⟨g2,0,none⟩) (l.length+n) cap)) (·=b):=Turn.setCell w2 _ _ (S:=(·=b)) rfl;have F1:Hid (BdZ (w2.setCell ⟨b,1,none⟩ (.slice (some ⟨g2,0,none⟩) (l.length+n) cap)) Z b (.pointer (some ⟨b,0,none⟩)) (.slice (some ⟨g2,0,none⟩) (l.length+n) cap) (l++m)):=hid (by
  refine⟨.inr rfl,by simp[World.setCell,Array.getElem?_modify,hb2],?_,HL.out⟩;rw[List.length_append,List.map_append,HN.out];refine⟨hown'.1,?_⟩;rcases hown'.2 with h5|⟨g,cap',cur,e1,h5,h6,h7⟩
  ·exact .inl h5
  ·refine .inr ⟨g,cap',cur,e1,h5,(ht4.block g (QbT h6) (fun e=>by have e:g=b:=e;have:=HL.out;omega)).trans h6,h7⟩)
 have F2:Hid (Turn w (w2.setCell ⟨b,1,none⟩ (.slice (some ⟨g2,0,none⟩) (l.length+n) cap)) (fun i=>i=b∨v.ownBlock=some i)):=hid (by
  have t1:Turn w w1 (fun i=>i=b∨v.ownBlock=some i):=HT.out.mono fun _ _ e=>.inl e
  have t2:Turn w1 w2 (fun i=>i=b∨v.ownBlock=some i):=Turn.Qf hgrow fun i e _=>.inr e
  exact(t1.trans t2 (fun _ _ e=>e)).trans (ht4.mono fun _ _ e=>.inl e) (fun _ _ e=>e))
 clear hown' hgrow hb2 hlt c0 c1 hne hg2 ht4;go_wp2;go_ret2
 exact⟨_,_,rfl,F1.out,F2.out⟩
theorem Qhe(b:Nat)(w:World)(h:w.heap[b]?=some (.cells #[.pointer none,.slice none 0 0] 75 (0,0))) :
  Calls Tryz.prog 38 #[.pointer (some ⟨b,0,none⟩)] w fun e w'=>e=.returned (.string (strOfNums []))∧w.grownBy w' none:=by
 have c1:w.drew.cell? ⟨b,1,none⟩=some (.slice none 0 0):=by
  have:w.drew.heap[b]?=some (.cells #[.pointer none,.slice none 0 0] 75 (0,0)):=h;rw[cell_of_row _ _ _ _ _ _ this];rfl
 have hSD:(Builtin.unsafeSliceData_ #[46] 128 #[.slice none 0 0]).run Tryz.prog w.drew=.ok (.pointer none) w.drew:=Lib.run_unsafeSliceData_nil _ _ _ _ _;have hUS:(Builtin.unsafeString_ #[128,3] 9 #[.pointer none,.int .i64 0]).run Tryz.prog w.drew=.ok (.string .empty) w.drew:=Lib.run_unsafeString_none _ _ _ _ _;have HG:Hid (w.grownBy w.drew none):=hid ((Turn.drewN w 1 nowhere).grown);have HE:Hid (strOfNums []=.empty):=hid rfl;rw[HE.out];clear h;go_enter Tryz.func38,Tryz.ntmps38
 go_wp2;go_region
 all_goals (go_wp2;go_ret;exact⟨rfl,HG.out⟩)
theorem Qhf(w:World)(p:Addr)(n:Nat):Turn w (w.drew.freeze p n) (·=p.block):=by
 unfold World.freeze
 split
 ·exact Turn.drewN w 1 _
 ·exact⟨rfl,rfl,rfl,by simp,fun k hk hne=>by
   simp only[Array.getElem?_modify];rw[if_neg (fun e=>hne e.symm)]
   rfl⟩
theorem Qhd(Z b:Nat)(p v:Value)(l:List Int)(w:World)(h:BdZ w Z b p v l)(h0:l≠[])(hb:Bs.IsB l) :
  Calls Tryz.prog 38 #[.pointer (some ⟨b,0,none⟩)] w fun e w'=>e=.returned (.string (strOfNums l))∧Turn w w' (fun i=>v.ownBlock=some i):=by
 obtain⟨m,hm⟩:∃m,m=l.map fun x=>UInt8.ofNat x.toNat:=⟨_,rfl⟩
 have hS:strOfNums l=⟨m.toArray⟩:=by rw[hm];rfl
 have hm0:m≠[]:=by rw[hm];simpa using h0
 have hml:m.length=l.length:=by rw[hm,List.length_map]
 obtain⟨-,hbk,hown,-⟩:=h;rw[Qev hb,←hm,←hml]at hown;rw[hS];have hl0:m.length≠0:=by simpa using hm0
 obtain⟨g,cap,cur,rfl,hbg,hg,hnc,hcm,hcs,htake⟩:∃g cap cur,v=.slice (some ⟨g,0,none⟩) m.length cap∧Z≤g∧w.heap[g]?=some (.cells cur 5 (0,0))∧m.length≤cap∧cap≤maxLen∧cur.size=cap*1∧cur.toList.take (m.length*1)=Lib.byteCells m:=by
  rcases hown.2 with ⟨_,hz⟩|⟨g,cap,cur,hv,r⟩
  ·exact absurd hz hl0
  ·exact⟨g,cap,cur,hv,r⟩
 have c1:w.drew.cell? ⟨b,1,none⟩=some (.slice (some ⟨g,0,none⟩) m.length cap):=by
  have:w.drew.heap[b]?=some (.cells #[p,.slice (some ⟨g,0,none⟩) m.length cap] 75 (0,0)):=hbk;rw[cell_of_row _ _ _ _ _ _ this];rfl
 have hSD:(Builtin.unsafeSliceData_ #[46] 128 #[.slice (some ⟨g,0,none⟩) m.length cap]).run Tryz.prog w.drew=.ok (.pointer (some ⟨g,0,none⟩)) w.drew:=
  Lib.run_unsafeSliceData_row _ _ _ _ _ _ (by omega)
 have hUS:(Builtin.unsafeString_ #[128,3] 9 #[.pointer (some ⟨g,0,none⟩),.int .i64 m.length]).run Tryz.prog w.drew=.ok (.string ⟨m.toArray⟩) (w.drew.freeze ⟨g,0,none⟩ m.length):=by
  refine Lib.run_unsafeString_row w.drew 128 3 9 5 Tryz.underlying128 (by kernel_rfl) g cur.size (by have hg':w.drew.heap[g]?=some (.cells cur 5 (0,0)):=hg;simp[World.shape?,hg']) m hm0 (by omega) (by unfold maxLen at hcm;omega) ?_;intro j x hx;have:=hown.cells (g:=g) rfl j (.int .u8 x.toNat) (by simp[Lib.byteCells,hx]);exact this
 obtain⟨S,HS⟩:∃S:ByteArray,S=⟨m.toArray⟩:=⟨_,rfl⟩;rw[←HS]at hUS ⊢;have HF:Hid (Turn w (w.drew.freeze ⟨g,0,none⟩ m.length) (fun i=>(Value.slice (some ⟨g,0,none⟩) m.length cap).ownBlock=some i)):=hid ((Qhf w ⟨g,0,none⟩ m.length).mono (fun i _ e=>by have e:i=g:=e;rw[e];rfl));obtain⟨L,hL⟩:∃L,m.length=L:=⟨_,rfl⟩;rw[hL]at c1 hSD hUS HF ⊢;clear hown hbk hg htake hS HS hm hnc hcs hL;go_enter Tryz.func38,Tryz.ntmps38
 go_wp2;go_region
 all_goals (go_wp2;go_ret;exact⟨rfl,HF.out⟩)
end Sg
end Go.Proofs.YtgffbbdcbkikhaaGreatDoor
