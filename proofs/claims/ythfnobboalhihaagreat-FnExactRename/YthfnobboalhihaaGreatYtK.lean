import Derived.Test.YthfnobboalhihaaGreatYg
import Derived.Test.YthfnobboalhihaaGreatYqK
import Derived.Deep.LoopGhost
set_option maxHeartbeats 4000000
set_option maxRecDepth 100000
namespace Go.Proofs.YthfnobboalhihaaGreat.K
open Go.RowKit Go.Joins
variable {O:Nat->Nat}
def wm (O:Nat->Nat) (lo G:Nat) (V:World) (K:List (Nat×Nat)) (mv sv:Value) (V':World):Prop:=
 ∃tb,GS O lo G V' K K mv sv (iO K K.length)∧TI O V' tb K []∧V'.cell? ⟨G,2,none⟩=some (.slice (some ⟨tb,0,none⟩) (off K K.length) (off K K.length))∧V.heap.size<=tb∧Kept (λd=>d≠G∧sv.ownBlock≠some d) V V'∧∀q,q≠2->V'.cell? ⟨G,q,none⟩=V.cell? ⟨G,q,none⟩
theorem SL.fin {lo G:Nat} {V w:World} {K:List (Nat×Nat)} {M:Nat} {sv:Value} {tb I:Nat} (h:SL O lo G V K M sv tb I [] w):wm O lo G V K (.map (some M)) sv w:=⟨tb,h.g,h.t,h.c,h.hs.1,h.k,h.o⟩
theorem SL.start {lo G:Nat} {V w:World} {K:List (Nat×Nat)} {M:Nat} {sv:Value} (h:LP O lo G V K (.map (some M)) sv K.length w) (hV:GS O lo G V K K (.map (some M)) sv zf) (hn:(K.map Prod.fst).Nodup) (hc2:∃v,w.cell? ⟨G,2,none⟩=some v) (C:Nat) (hC:off K K.length=C):
  ∃c,(Instr.range 133 (.map (some M))).run Tryz.prog ((w.alloc (.cells (madeCells #[.pointer none] C) 55)).setCell ⟨G,2,none⟩ (.slice (some ⟨w.heap.size,0,none⟩) C C))=.ok (.pointer (some ⟨w.heap.size+1,0,none⟩)) (((w.alloc (.cells (madeCells #[.pointer none] C) 55)).setCell ⟨G,2,none⟩ (.slice (some ⟨w.heap.size,0,none⟩) C C)).alloc (.mapIter (some M) c #[] c))∧SL O lo G V K M sv w.heap.size (w.heap.size+1) ((bF O 0 K).map Prod.fst) (((w.alloc (.cells (madeCells #[.pointer none] C) 55)).setCell ⟨G,2,none⟩ (.slice (some ⟨w.heap.size,0,none⟩) C C)).alloc (.mapIter (some M) c #[] c)):=by
 obtain ⟨h1,h2⟩:=h;have hG:=h1.hg;have hv:=h1.hv;have Ww:=hV.map;have hsv:∀d,sv.ownBlock=some d->d < V.heap.size:=λd e=>by
  exact zz241
 have hw:=h2.size;obtain ⟨w1,hw1⟩:∃w1,w.alloc (.cells (madeCells #[.pointer none] C) 55)=w1:=⟨_,rfl⟩
 have k1:Kept (λ_=>True) w w1:=by rw [<- hw1];exact Kept.alloc _ _ _
 have z1:w1.heap.size=w.heap.size+1:=by rw [<- hw1];simp
 have b1:w1.heap[w.heap.size]? =some (.cells (madeCells #[.pointer none] C) 55):=by rw [<- hw1];exact bH _ _
 rw [hw1];obtain ⟨w2,hw2⟩:∃w2,w1.setCell ⟨G,2,none⟩ (.slice (some ⟨w.heap.size,0,none⟩) C C)=w2:=⟨_,rfl⟩
 have k2:Kept (λd=>d≠G) w1 w2:=by rw [<- hw2];exact Kept.setCell _ _ _ _ (by simp)
 have z2:w2.heap.size=w.heap.size+1:=by rw [<- hw2,World.size_setCell];exact z1
 obtain ⟨v0,hv0⟩:=hc2;have hv1:w1.cell? ⟨G,2,none⟩=some v0:=(k1.cell (p:=⟨G,2,none⟩) (by show G < _;omega) trivial).trans hv0;have c2:w2.cell? ⟨G,2,none⟩=some (.slice (some ⟨w.heap.size,0,none⟩) C C):=by rw [<- hw2];exact World.cell?_setCell_same' _ _ _ (by rw [hv1];rfl)
 have o2:∀q,q≠2->w2.cell? ⟨G,q,none⟩=w.cell? ⟨G,q,none⟩:=λq hq=>by
  exact zz147
 have f2:∀q,w2.frozen? ⟨G,q,none⟩=false:=λq=>by rw [<- hw2,World.frozen?_setCell];exact (h1.kept k1).gf q
 rw [hw2];have g2:GS O lo G w2 K K (.map (some M)) sv (iO K K.length):=(h1.kept k1).other k2 ((o2 0 (by omega)).trans h1.gm) ((o2 1 (by omega)).trans h1.gs) f2;obtain ⟨c,hr,hi⟩:=IW.start g2.map.1 (P:=Tryz.prog) Tryz.underlying133;rw [z2] at hr hi;have k3:Kept (λ_=>True) w2 (w2.alloc (.mapIter (some M) c #[] c)):=Kept.alloc _ _ _;have b2:w2.heap[w.heap.size]? =some (.cells (madeCells #[.pointer none] C) 55):=(k2.block _ (by omega) (by omega)).trans b1;have oG:∀q,q≠2->w.cell? ⟨G,q,none⟩=V.cell? ⟨G,q,none⟩:=λq _=>h2.cell (p:=⟨G,q,none⟩) (by have:=hV.hv;show G < _;omega) (λe=>by have:=az hV.ow G e;omega)
 have kV:Kept (λd=>d≠G∧sv.ownBlock≠some d) V w2:=((h2.mono (λ_ _ x=>x.2)).trans (k1.mono (λ_ _ _=>trivial))).trans (k2.mono (λ_ _ x=>x.1));refine ⟨c,hr,g2.kept k3,hi,TI.kept (S:=λ_=>True) ⟨by omega,λj=>?_,λq hq=>?_,λi e j he hj=>.inl ?_⟩ k3 trivial,?_,kV.trans (k3.mono (λ_ _ _=>trivial)),λq hq=>?_,hw,by omega,Ww.2.2,hsv⟩
 .simp [World.frozen?,b2]
 .rw [hC] at hq
  exact zz120
 .exact List.mem_map.2 ⟨_,xE (pO hn he hj),rfl⟩
 .rw [hC]
  exact (k3.cell (p:=⟨G,2,none⟩) (by show G < _;omega) trivial).trans c2
 .exact ((k3.cell (p:=⟨G,q,none⟩) (by show G < _;omega) trivial).trans (o2 q hq)).trans (oG q hq)
end Go.Proofs.YthfnobboalhihaaGreat.K
namespace Go.Proofs.YthfnobboalhihaaGreat
open Go.RowKit Go.Joins
theorem zz191 {P:Prop} (h:P:=by
 rw [<- hw2,World.cell?_setCell_other _ _ _ _ (λx=>(by decide:¬(2:Nat)=0) (congrArg Addr.off x))];exact yP):P:=h
end Go.Proofs.YthfnobboalhihaaGreat
namespace Go.Proofs.YthfnobboalhihaaGreat.K
open Go.RowKit Go.Joins
variable {O:Nat->Nat}
theorem Kept.drewN (S:Nat->Prop) (A:World) (n:Nat):Kept S A (A.drewN n):=⟨rfl,rfl,rfl,Nat.le_refl _,λ_ _ _=>rfl⟩
theorem SL.put {lo G:Nat} {V w w' W5:World} {K:List (Nat×Nat)} {M:Nat} {sv:Value} {tb I:Nat} {left left':List (Nat×Nat)} (h:SL O lo G V K M sv tb I left w) (k:Kept (λd=>d≠I) w w') (hi:IW w' I M (bF O 0 K) left') (k5:Kept (λ_=>True) w' W5) (hn:(K.map Prod.fst).Nodup) {i j:Nat} {e:Nat×Nat} (he:K[i]? =some e) (hj:j < e.2) (hl:∀y∈left,y=(e.1,O e.1+j * 7)∨y∈left'):
  SL O lo G V K M sv tb I left' (W5.setCell ⟨tb,off K i+j,none⟩ (kp (e.1,O e.1+j * 7))):=by
 obtain ⟨a1,a2,a3,a4,a5⟩:=h.step k;obtain ⟨s1,s2,s3,s4⟩:=h.hs;have hG:=h.g.hg;have hv:=h.g.hv;have hV:=h.k.size;have hlo:lo<=tb:=by
  exact zz111
 have hI:I < W5.heap.size:=by
  exact zz192
 have z5:w'.heap.size<=W5.heap.size:=k5.size;have z':=k.size;have ks:Kept (λd=>d≠tb) W5 (W5.setCell ⟨tb,off K i+j,none⟩ (kp (e.1,O e.1+j * 7))):=Kept.setCell _ _ _ _ (by simp);have g5:=a1.kept k5;have t5:=a2.kept k5 trivial;have c5:∀q,W5.cell? ⟨G,q,none⟩=w'.cell? ⟨G,q,none⟩:=λq=>k5.cell (p:=⟨G,q,none⟩) (by have:=a1.hv;show G < _;omega) trivial
 have c6:∀q,(W5.setCell ⟨tb,off K i+j,none⟩ (kp (e.1,O e.1+j * 7))).cell? ⟨G,q,none⟩=W5.cell? ⟨G,q,none⟩:=λq=>ks.cell (p:=⟨G,q,none⟩) (by have:=g5.hv;show G < _;omega) (by show G≠tb;omega)
 refine ⟨g5.off ks hlo (λM' e=>by cases e;omega) (λb e=>by have:=s4 b e;omega),(hi.kept k5 trivial trivial).kept ks (by show I≠tb;omega) (by show M≠tb;omega),t5.put hn he hj hl,((c6 2).trans (c5 2)).trans a3,?_,λq hq=>((c6 q).trans (c5 q)).trans (a5 q hq),h.hs⟩;exact zz88
theorem wh {lo G:Nat} {V:World} {K:List (Nat×Nat)} {M:Nat} {sv:Value} (h:GS O lo G V K K (.map (some M)) sv zf) (hn:(K.map Prod.fst).Nodup) (hk0:0 < K.length) (hl:K.length<=10000000) (hof:off K K.length<=10000000) (hc2:∃v,V.cell? ⟨G,2,none⟩=some v):
  Calls Tryz.prog 69 #[.pointer (some ⟨G,0,none⟩)] V λr V'=>(∃v,r=.returned v)∧wm O lo G V K (.map (some M)) sv V':=by
 obtain ⟨b,cap,rfl,-,-,hcap⟩:=h.slice hk0;obtain ⟨n,hnn⟩:∃n,K.length=n:=⟨_,rfl⟩
 have c1:=h.gs;rw [hnn] at c1 hcap ⊢;have h0:LP O lo G V K (.map (some M)) (.slice (some ⟨b,0,none⟩) n cap) 0 V:=by
  refine ⟨?_,Kept.refl _ _⟩;rw [lD];rw [hnn] at h;exact h
 have HH:Hid (GS O lo G V K K (.map (some M)) (.slice (some ⟨b,0,none⟩) n cap) zf):=by rw [hnn] at h;exact h
 have H0:=hide h0;have HN:=hide hn;have ku:=hide hnn;have yO:=hide hof;have iJ:=hide hc2;have hn1:n<=10000000:=by omega
 clear h hn hk0 hl hof hc2 h0 hnn;go_enter Tryz.func69,Tryz.ntmps69
 go_upto_region 2 with fail
 go_loopw [2,3,4,11] (λs2 _ _ s11 wr=>∃i:Nat,s2=.int .i64 (off K i:Nat)∧s11=.int .i64 (i:Int)∧i<=n∧Hid (LP O lo G V K (.map (some M)) (.slice (some ⟨b,0,none⟩) n cap) i wr)) (λ_ _ _ s11 _=>n - (intOf s11).toNat)
 case atStart=>exact ⟨0,rfl,rfl,Nat.zero_le _,H0⟩
 case round=>
  obtain ⟨i,rfl,rfl,hin,hlp⟩:=hrel
  by_cases hi:i < n
  .have hii:(i:Int) < (n:Int):=by omega
   exact zz21
  .have hii:¬(i:Int) < (n:Int):=by omega
   have Gx:i=K.length:=by rw [ku.out];omega
   have wo:=hlp.out;rw [Gx] at wo;obtain ⟨C,hC⟩:∃C,off K K.length=C:=⟨_,rfl⟩
   have UB:C<=10000000:=by rw [<- hC];exact yO.out
   obtain ⟨v2,hv2⟩:=iJ.out;have hG:=HH.out.hg;have hv:=HH.out.hv;have cw:∀q,wr.cell? ⟨G,q,none⟩=V.cell? ⟨G,q,none⟩:=λq=>wo.2.cell (p:=⟨G,q,none⟩) (by show G < _;omega) (λe=>by have:=az HH.out.ow G e;omega)
   have t2:wr.cell? ⟨G,2,none⟩=some v2:=(cw 2).trans hv2;have t0:wr.cell? ⟨G,0,none⟩=some (.map (some M)):=wo.1.gm;have tf:=wo.1.gf 2;obtain ⟨c,hr,mO⟩:=SL.start wo HH.out HN.out ⟨v2,t2⟩ C hC;have hmk:=jG C UB wr;obtain ⟨w1,hw1⟩:∃w1,wr.alloc (.cells (madeCells #[.pointer none] C) 55)=w1:=⟨_,rfl⟩
   rw [hw1] at hr mO hmk;have k1:Kept (λ_=>True) wr w1:=by rw [<- hw1];exact Kept.alloc _ _ _
   have ky:G < wr.heap.size:=block_lt_of_cell t0;have t21:w1.cell? ⟨G,2,none⟩=some v2:=(k1.cell (p:=⟨G,2,none⟩) ky trivial).trans t2;have Ml:w1.frozen? ⟨G,2,none⟩=false:=(k1.frozen (p:=⟨G,2,none⟩) ky trivial).trans tf;have yP:w1.cell? ⟨G,0,none⟩=some (.map (some M)):=(k1.cell (p:=⟨G,0,none⟩) ky trivial).trans t0;obtain ⟨w2,hw2⟩:∃w2,w1.setCell ⟨G,2,none⟩ (.slice (some ⟨wr.heap.size,0,none⟩) C C)=w2:=⟨_,rfl⟩
   rw [hw2] at hr mO;have Gy:w2.cell? ⟨G,0,none⟩=some (.map (some M)):=by
    exact zz191
   obtain ⟨w3,hw3⟩:∃w3,w2.alloc (.mapIter (some M) c #[] c)=w3:=⟨_,rfl⟩
   rw [hw3] at hr mO;have xV:=hide mO;have HW2:=hide hw2;have hci:Hid ((off K i:Nat)=C):=by unfold Hid;rw [Gx];exact hC
   have Gz:=hide hC;rw [hci.out];obtain ⟨tb,htb⟩:∃tb,wr.heap.size=tb:=⟨_,rfl⟩
   rw [htb] at hr xV HW2 hmk;obtain ⟨I,hI⟩:∃I,tb+1=I:=⟨_,rfl⟩
   rw [hI] at hr xV;clear mO hw1 hw2 hw3 hC wo Gx hv2 hG hv cw t2 tf k1 ky yP hlp htb hI
   go_upto_region 10 with fail
   rw [HW2.out]
   go_upto_region 11 with fail
   go_loopg [5] (((bF O 0 K).map Prod.fst).length) (λg _ wx=>∃left,Hid (g=left.length)∧Hid (SL O lo G V K M (.slice (some ⟨b,0,none⟩) n cap) tb I left wx))
   case atStart=>exact ⟨_,rfl,xV⟩
   case round=>
    obtain ⟨left,hg,hs⟩:=hrel;have yQ:I≠M:=by
     obtain ⟨s1,s2,s3,-⟩:=hs.out.hs;omega
    rcases hs.out.i.next (P:=Tryz.prog) yQ 0 with ⟨rfl,hrun⟩ | ⟨x,v,left',w',hx,hy,hlen,hrun,hent,Mm,hk⟩
    .have HE:=hide hs.out.fin
     clear hs xV;go_wp2_with fail;go_end0;exact ⟨⟨_,rfl⟩,HE.out⟩
    .obtain ⟨p,hp,hpx⟩:=hs.out.i.sub x hx
     obtain ⟨k,e,e1,e2,-,e4,e5⟩:=dG 0 K p hp;obtain ⟨j,hj⟩:∃j,p.2.2=j:=⟨_,rfl⟩
     rw [hj] at e4 e5;have hxe:x=(e.1,O e.1+j * 7):=by rw [<- hpx];exact Prod.ext e2 (by rw [e5,e2])
     subst hxe;have hkn:k < K.length:=(List.getElem?_eq_some_iff.1 e1).1;have Cr:off K k+j < C:=by rw [<- Gz.out];exact rF e1 e4
     obtain ⟨P,hP⟩:∃P,off K k+j=P:=⟨_,rfl⟩
     rw [hP] at Cr;have st:=hs.out.step hk;have ti:=st.2.1;have hoe:e.2<=10000000:=by
      have h1:=gL e1 hkn;have h2:=yO.out;omega
     have hok:off K k<=10000000:=by
      have h1:=qi (K:=K) (show k<=K.length by omega);have h2:=yO.out;omega
     have nI:iO K K.length k=(off K k:Int):=if_pos hkn;obtain ⟨X1,hX1⟩:∃X1,e.1=X1:=⟨_,rfl⟩
     obtain ⟨X2,hX2⟩:∃X2,O e.1+j * 7=X2:=⟨_,rfl⟩
     have pg:Hid (∀Vx,Kept (λ_=>True) w' Vx->Calls Tryz.prog 76 #[.pointer (some ⟨G,0,none⟩),.pointer (some ⟨X1,X2,none⟩)] Vx λr w''=>∃v,r=.returned v∧(v=.int .i64 (P:Int)∧Kept (λ_=>True) w' w'')):=λVx kx=>by
      exact zz114
     have FX:Hid (∀W5,Kept (λ_=>True) w' W5->W5.cell? ⟨G,2,none⟩=some (.slice (some ⟨tb,0,none⟩) C C)∧(∃v0,W5.cell? ⟨tb,P,none⟩=some v0)∧W5.frozen? ⟨tb,P,none⟩=false):=λW5 k5=>by
      have c3:=st.2.2.1;rw [Gz.out] at c3;have t5:=ti.kept k5 trivial;exact ⟨(k5.cell (p:=⟨G,2,none⟩) (block_lt_of_cell c3) trivial).trans c3,t5.room P (by rw [Gz.out];exact Cr),t5.live P⟩
     have FIN:Hid (∀W5,Kept (λ_=>True) w' W5->SL O lo G V K M (.slice (some ⟨b,0,none⟩) n cap) tb I left' (W5.setCell ⟨tb,P,none⟩ (.pointer (some ⟨X1,X2,none⟩)))):=λW5 k5=>by
      exact zz199
     have HLEN:Hid (left'.length < left.length):=by unfold Hid;omega
     have he1:=hent w' (.inl rfl);simp only [kp] at he1 hrun;rw [hX2,hX1] at he1 hrun;have Xv:(P:Int) < (C:Int):=by omega
     clear hent Mm hk hx hy hlen st ti hoe hok nI hP hkn e1 e2 e4 e5 hpx hp hs hX1 hX2 hj;obtain ⟨d1,⟨dv,d2⟩,d3⟩:=FX.out w'.drew (Kept.drew _ _)
     go_upto_region 13 with fail
     go_region_law (first
      | (refine aX (by rfl) 76 #[.pointer (some ⟨G,0,none⟩),.pointer (some ⟨X1,X2,none⟩)] (by simp [go_sem]) _ (pg.out _ (Kept.drew _ _)) ?_;rintro v5 W5 ⟨rfl,h5⟩;have K5:=hide h5;obtain ⟨y1,⟨yv,y2⟩,y3⟩:=FX.out W5 h5;clear h5)
      | fail)
     all_goals
      exact zz166
variable {O:Nat->Nat}
theorem uD {lo G:Nat} {V:World} {sv:Value} (h:GS O lo G V [] [] (.map none) sv zf) (hc2:∃v,V.cell? ⟨G,2,none⟩=some v):
  Calls Tryz.prog 69 #[.pointer (some ⟨G,0,none⟩)] V λr V'=>(∃v,r=.returned v)∧wm O lo G V [] (.map none) sv V':=by
 obtain ⟨a,cap,rfl⟩:=h.ng;have c1:V.cell? ⟨G,1,none⟩=some (.slice a 0 cap):=h.gs;have c0:=h.gm;have tf:=h.gf 2;obtain ⟨v2,c2⟩:=hc2;have hmk:(Instr.makeSlice 113 (.int .i64 0) (.int .i64 0)).run Tryz.prog V=.ok (.slice (some ⟨V.heap.size,0,none⟩) 0 0) (V.alloc (.cells (madeCells #[.pointer none] 0) 55)):=jG 0 (by omega) V;obtain ⟨w1,hw1⟩:∃w1,V.alloc (.cells (madeCells #[.pointer none] 0) 55)=w1:=⟨_,rfl⟩
 rw [hw1] at hmk;have k1:Kept (λ_=>True) V w1:=by rw [<- hw1];exact Kept.alloc _ _ _
 have z1:w1.heap.size=V.heap.size+1:=by rw [<- hw1];simp
 have ky:G < V.heap.size:=block_lt_of_cell c0;have t21:w1.cell? ⟨G,2,none⟩=some v2:=(k1.cell (p:=⟨G,2,none⟩) ky trivial).trans c2;have Ml:w1.frozen? ⟨G,2,none⟩=false:=(k1.frozen (p:=⟨G,2,none⟩) ky trivial).trans tf;obtain ⟨w2,hw2⟩:∃w2,w1.setCell ⟨G,2,none⟩ (.slice (some ⟨V.heap.size,0,none⟩) 0 0)=w2:=⟨_,rfl⟩
 have k2:Kept (λd=>d≠G) w1 w2:=by rw [<- hw2];exact Kept.setCell _ _ _ _ (by simp)
 have z2:w2.heap.size=V.heap.size+1:=by rw [<- hw2,World.size_setCell];exact z1
 have oq:∀q,q≠2->w2.cell? ⟨G,q,none⟩=V.cell? ⟨G,q,none⟩:=λq hq=>by
  exact zz167
 have fq:∀q,w2.frozen? ⟨G,q,none⟩=false:=λq=>by rw [<- hw2,World.frozen?_setCell];exact (h.kept k1).gf q
 have Gy:w2.cell? ⟨G,0,none⟩=some (.map none):=(oq 0 (by decide)).trans c0;have hrg:=run_range_nilMap (P:=Tryz.prog) w2 133 55 182 Tryz.underlying133;have hnx:∀ty,(Instr.next (.pointer (some ⟨w2.heap.size,0,none⟩)) false ty).run Tryz.prog (w2.alloc (.mapIter none 0 #[] 0))=_:=λty=>run_next_nilMap w2 ty 0 0 #[]
 have HE:Hid (wm O lo G V [] (.map none) (.slice a 0 cap) (w2.alloc (.mapIter none 0 #[] 0))):=by
  have g2:GS O lo G w2 [] [] (.map none) (.slice a 0 cap) zf:=(h.kept k1).other k2 Gy ((oq 1 (by decide)).trans c1) fq;have k3:Kept (λ_=>True) w2 (w2.alloc (.mapIter none 0 #[] 0)):=Kept.alloc _ _ _;have b1:w1.heap[V.heap.size]? =some (.cells (madeCells #[.pointer none] 0) 55):=by rw [<- hw1];exact bH _ _
  have b2:w2.heap[V.heap.size]? =some (.cells (madeCells #[.pointer none] 0) 55):=(k2.block _ (by omega) (by omega)).trans b1;refine ⟨V.heap.size,?_,?_,?_,Nat.le_refl _,?_,λq hq=>?_⟩
  .have:=g2.kept k3
   rw [List.length_nil,lD];exact this
  .refine TI.kept (S:=λ_=>True) ⟨by omega,λj=>by simp [World.frozen?,b2],λq hq=>?_,λi e j he=>?_⟩ k3 trivial
   .simp [off] at hq
   .simp at he
  .have UY:w2.cell? ⟨G,2,none⟩=some (.slice (some ⟨V.heap.size,0,none⟩) 0 0):=by rw [<- hw2];exact World.cell?_setCell_same' _ _ _ (by rw [t21];rfl)
   exact (k3.cell (p:=⟨G,2,none⟩) (by show G < _;omega) trivial).trans UY
  .exact ((k1.mono (λ_ _ _=>trivial)).trans (k2.mono (λ_ _ x=>x.1))).trans (k3.mono (λ_ _ _=>trivial))
  .exact (k3.cell (p:=⟨G,q,none⟩) (by show G < _;omega) trivial).trans (oq q hq)
 have HW2:=hide hw2;clear h oq fq k1 k2 z1 hw1 hw2 ky z2 tf c2;go_enter Tryz.func69,Tryz.ntmps69;exact zz45
end Go.Proofs.YthfnobboalhihaaGreat.K
