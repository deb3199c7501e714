/- Parts of the proof. -/
import Derived.Deep.AppendLies
import Derived.Test.YtgffbbdcbkikhaaGreatDoorKbN
set_option maxRecDepth 100000
set_option maxHeartbeats 8000000
open Go.Lib (hid)
namespace Go.Proofs.YtgffbbdcbkikhaaGreatDoor
namespace Dv
open Go.RowKit Bs
def Wrote(g b:Nat)(P:Value)(r:Int×St)(w:World)(e:Ending)(w':World):Prop:=
 ∃P',e=.returned (.int .i64 r.1)∧Dev w' g b P' r.2∧Turn w w' (fp g b P)∧∀k,fp g b P' k→fp g b P k∨w.heap.size≤k
theorem Wrote.same{g b:Nat}{P:Value}{s:St}{w:World}{x:Int}(h:Dev w g b P s):Wrote g b P (x,s) w (.returned (.int .i64 x)) w:=⟨P,rfl,h,Turn.refl _ _,fun _ h=>.inl h⟩
theorem Qix{g b:Nat}{P:Value}{s:St}{block:Nat}{l:List Int}{w w1 w2 w3:World}{g' cap:Nat}(h:Dev w g b P s)(h1:Dev w1 g b P s.burn)(t1:Turn w w1 (·=g))(t2:Turn w1 w2 nowhere)
  (hown:w3.ownsRow 0 143 2 (.slice (some ⟨g',0,none⟩) (s.pend.length+1) cap) (s.pend.length+1) (wrow s.pend++wcells (block,l))) (hg:w2.grownBy w3 P.ownBlock) (hat:P.ownBlock=some g'∨g'=w2.heap.size)
  (ok:({ s.burn with pend:=s.pend++[(block,l)] }:St).Ok) :
  Wrote g b P (0,{ s.burn with pend:=s.pend++[(block,l)] }) w (.returned (.int .i64 0)) (w3.setCell ⟨g,3,none⟩ (.slice (some ⟨g',0,none⟩) (s.pend.length+1) cap)):=by
 have hlt:=h.lt;have z1:=t1.size;have z2:=t2.size;have hgg:g'≠g:=by
  rintro rfl;rcases hat with e|e
  ·exact h.pg e
  ·have:=hlt g' (.inl rfl);omega
 have hgb:g'≠b:=by
  rintro rfl;rcases hat with e|e
  ·exact h.pb e
  ·have:=hlt g' (.inr (.inl rfl));omega
 have t3:Turn w2 w3 (fun k=>P.ownBlock=some k):=Turn.Qf hg (fun i e _=>e);have t4:Turn w3 (w3.setCell ⟨g,3,none⟩ (.slice (some ⟨g',0,none⟩) (s.pend.length+1) cap)) (·=g):=Turn.setCell _ _ _ rfl;have t13:Turn w1 w3 (fun k=>P.ownBlock=some k):=(t2.mono (fun _ _ e=>e.elim)).trans t3 (fun _ _ e=>e);have t14:Turn w1 (w3.setCell ⟨g,3,none⟩ (.slice (some ⟨g',0,none⟩) (s.pend.length+1) cap)) (fun k=>k=g∨P.ownBlock=some k):=(t13.mono (fun _ _ e=>.inr e)).trans t4 (fun _ _ e=>.inl e);obtain⟨c,hc,hm,hbox⟩:=h1.box;refine⟨.slice (some ⟨g',0,none⟩) (s.pend.length+1) cap,rfl,?_,(t1.mono (fun _ _ e=>.inl e)).trans t14 (fun i _ e=>e.elim .inl (fun e=>.inr (.inr e))),?_⟩
 ·refine h1.reboxS t14 (fun e=>e.elim (fun e=>h.gb e.symm) (fun e=>h.pb e)) hc hm ?_ ok rfl rfl rfl ?_ (by simpa [Value.ownBlock] using hgg) (by simpa [Value.ownBlock] using hgb)
  ·have hb3:w3.heap[g]?=w1.heap[g]?:=t13.block g (Array.getElem?_eq_some_iff.1 hbox).1 (fun e=>h.pg e);rw[hbox]at hb3;rw[heap_set hb3]
   rfl
  ·have e1:wrow ({ s.burn with pend:=s.pend++[(block,l)] }:St).pend=wrow s.pend++wcells (block,l):=QjP _ _;have e2:({ s.burn with pend:=s.pend++[(block,l)] }:St).pend.length=s.pend.length+1:=by simp
   rw[e1,e2];exact Qa3 hown t4 (fun i hi e=>hgg (by rw[←e];simpa [Value.ownBlock] using hi))
 ·rintro k (e|e|e)
  ·exact .inl (.inl e)
  ·exact .inl (.inr (.inl e))
  ·have e:g'=k:=by simpa [Value.ownBlock] using e
   subst e;rcases hat with e|e
   ·exact .inl (.inr (.inr e))
   ·exact .inr (by omega)
theorem write_any (g b:Nat) (P:Value) (s:St) (block:Int) (l:List Int) (w:World) (h:Dev w g b P s) (hl:IsB l) (hln:l.length≤100000000) (hp:s.pend.length<1000000) (ho:s.ops<1000000) :
    Calls Tryz.prog 44 #[.pointer (some ⟨g,0,none⟩),.int .i64 block,.string (strOfNums l)] w (Wrote g b P (s.write block l) w):=by
  obtain⟨c,hc,hm,q0,q1,q2,q3,q4,q5,q6⟩:=h.cells
  have HFI:=hid (QfU g b P s block w h)
  obtain⟨T,hT⟩:∃T,T=strOfNums l:=⟨_,rfl⟩
  have hsz:T.size=l.length:=by rw[hT,strOfNums_size]
  rw[←hT]
  have HT:=hid hT
  by_cases h1:s.hasB block
  · have HB : Hid (blockE s block=0):=hid (if_pos h1)
    by_cases h2:l.length=s.size
    · have e1 : ((T.size:Int) != (s.size:Int))=false:=by rw[hsz,h2];simp
      by_cases h3:s.fuse=0
      · have HE:Hid (s.write block l=(8,s)):=hid (by unfold St.write;rw[if_neg (by simp[h1,h2]),if_pos h3])
        have HN:=hid (Qhh g b P s w h h3)
        have HS:=hid (Wrote.same (x:=8) h)
        rw[HE.out]
        clear h h1 h2 h3 hT hsz
        go_enter Tryz.func44,Tryz.ntmps44
        go_wp2_with fail
        refine HFI.out.mono ?_
        rw[HB.out]
        rintro e w' ⟨rfl,rfl⟩
        go_wp2_with fail
        refine HN.out.mono ?_
        rintro e w' ⟨rfl,rfl⟩
        go_wp2
        go_ret
        exact HS.out
      · have hwr : s.write block l=(0,{ s.burn with pend:=s.pend++[(block.toNat,l)] }):=by unfold St.write;rw[if_neg (by simp[h1,h2]),if_neg h3]
        have HE:=hid hwr
        have HY:=hid (QfK g b P s w h h3 ho)
        have HOK:Hid ({ s.burn with pend:=s.pend++[(block.toNat,l)] }:St).Ok:=hid (by have:=h.ok.write block l hl hp ho;rw[hwr]at this;exact this)
        rw[HE.out]
        have HH:=hid h
        have hTs:T.size≤140737488355328:=by omega
        have HW:Hid (wcells (block.toNat,l)=[.int .i64 block,.string T]):=hid (by unfold wcells;rw[hT];unfold St.hasB at h1;simp only[show((block.toNat:Nat):Int)=block from by omega])
        obtain⟨i0,hi,hz0,hz1,hz2⟩:=info_parts Qh7
        clear h h1 h2 h3 hT hsz hwr
        go_enter Tryz.func44,Tryz.ntmps44
        go_wp2_with fail
        refine HFI.out.mono ?_
        rw[HB.out]
        rintro e w' ⟨rfl,rfl⟩
        go_wp2_with fail
        refine HY.out.mono ?_
        rintro e w1 ⟨rfl,hd1,ht1⟩
        have p3:w1.cell? ⟨g,3,none⟩=some P:=by obtain⟨_,_,_,_,_,_,p3,_⟩:=hd1.cells;exact p3
        have HD1:=hid hd1
        have HT1:=hid ht1
        clear hd1 ht1
        go_wp2_with fail
        go_region_law (first
          | (refine step_append_lies _ (by rfl) _ _ _ (by rfl) 0 143 i0 (.agg #[.int .i64 0,.string ⟨#[]⟩]) 2 24 Tryz.underlying138 hi hz0 hz1 hz2 rfl (by omega) P s.pend.length (wrow s.pend) (by rfl)
                 (Qa3 HD1.out.row T2.out (fun _ _ h=>h)) ⟨w2.heap.size,0,none⟩ 1 1 [.int .i64 block,.string T] (by rfl) rfl
                 (by intro j u hu;rw[Addr.add_lit,cell_of_row _ _ _ _ _ _ (heap_alloc_new _ _),Nat.zero_add];simpa using hu) (by simp[Value.oneCell']) (by omega) (by unfold maxLen;omega) (by omega) (Nat.zero_le _) (w2.heap.size+1) (by simp) ?_
             intro g' cap w3 hown3 hgrow3 hat3 hlt3
             have hgp:some g≠P.ownBlock:=fun e=>HD1.out.pg e.symm
             have p3c:w3.cell? ⟨g,3,none⟩=some P:=hgrow3.cell (T2.out.cell p3 id) hgp
             have f3c:w3.frozen? ⟨g,3,none⟩=false:=by
               rw[World.frozen?_of_block (hgrow3.block g (Nat.lt_of_lt_of_le (HD1.out.lt g (.inl rfl)) T2.out.size) hgp),T2.out.frozen (p:=⟨g,3,none⟩) (HD1.out.lt g (.inl rfl)) id]
               exact HD1.out.free 3
             rw[←HW.out]at hown3
             have HF:=hid (Qix HH.out HD1.out HT1.out T2.out hown3 hgrow3 (by rw[World.size_alloc];exact hat3) HOK.out)
             clear hown3 hgrow3 hat3 hlt3 hgp)
          | (rw[if_pos (by rfl)]
             go_simp
             go_at_call 87
             (with_reducible refine(Qc5 T _ hTs).mono ?_)
             rintro e w2 ⟨rfl,ht2⟩
             have p3b:w2.cell? ⟨g,3,none⟩=some P:=ht2.cell (by first|exact p3|simpa using p3) id
             have T2:Hid (Turn w1 (w2.alloc (.cells #[.int .i64 block,.string T] 143)) nowhere):=hid (((Turn.drew w1 nowhere).trans ht2 (fun _ _ h=>h)).trans (Turn.alloc _ _ nowhere) (fun _ _ h=>h))
             have p3d:∀O:Obj,(w2.alloc O).cell? ⟨g,3,none⟩=some P:=fun O=>(Turn.alloc w2 O nowhere).cell p3b id
             clear ht2
             dsimp only))
        all_goals
          go_wp2
          go_ret
          exact HF.out
    · have HE:Hid (s.write block l=(2,s)):=hid (by unfold St.write;rw[if_pos (by simp[h2])])
      have HS:=hid (Wrote.same (x:=2) h)
      rw[HE.out]
      have e1:((T.size:Int) != (s.size:Int))=true:=bne_iff_ne.2 (by omega)
      clear h h1 h2 hT hsz
      go_enter Tryz.func44,Tryz.ntmps44
      go_wp2_with fail
      refine HFI.out.mono ?_
      rw[HB.out]
      rintro e w' ⟨rfl,rfl⟩
      go_wp2
      go_ret
      exact HS.out
  · have HB:Hid (blockE s block=2):=hid (if_neg h1)
    have HE:Hid (s.write block l=(2,s)):=hid (by unfold St.write;rw[if_pos (by simp[h1])])
    have HS:=hid (Wrote.same (x:=2) h)
    rw[HE.out]
    clear h h1 hT hsz
    go_enter Tryz.func44,Tryz.ntmps44
    go_wp2_with fail
    refine HFI.out.mono ?_
    rw[HB.out]
    rintro e w' ⟨rfl,rfl⟩
    go_wp2
    go_ret
    exact HS.out
end Dv
end Go.Proofs.YtgffbbdcbkikhaaGreatDoor
