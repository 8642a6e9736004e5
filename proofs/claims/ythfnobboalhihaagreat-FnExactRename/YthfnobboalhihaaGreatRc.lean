import Derived.Test.YthfnobboalhihaaGreatQp
set_option maxHeartbeats 4000000
set_option maxRecDepth 100000
namespace Go.Proofs.YthfnobboalhihaaGreat
open Go.RowKit Go.Joins
theorem La {F:Fo} {lo:Nat} (W:World) (hf:Fit E F (E 3)) (hw:F.wt<=1048576) (ho:Own lo W F):Calls Tryz.prog 23 #[.agg F.vals.toArray] W λe W'=>∃g:Fo,e=.returned (.agg g.vals.toArray)∧g.aG F∧Own W.heap.size W' g∧Below W.heap.size W W':=by
 have BA:=hide hw;have htc:fH F<=4000000:=by
  have:=(Oi _ F 1 (Nat.le_refl _)).1 hf
  omega
 have Rw:=hide hf;obtain ⟨k,nm,mn,la,ln,lc,lk,na,nn,nc,nk,ka,kn,kc,kk,aa,an,ac,ak,e,-⟩:=ag hf;have hv:F.vals=[.int .i64 k,.string nm,.bool mn,.slice la ln lc,.slice na nn nc,.slice ka kn kc,.slice aa an ac]:=by rw [e];rfl
 rw [hv];clear e;obtain ⟨s,hs⟩:∃s,W.heap.size=s:=⟨_,rfl⟩
 obtain ⟨A1,hA1⟩:∃A,W.alloc (.cells #[.int .i64 k,.string nm,.bool mn,.slice la ln lc,.slice na nn nc,.slice ka kn kc,.slice aa an ac] 35)=A:=⟨_,rfl⟩
 obtain ⟨A2,hA2⟩:∃A,A1.alloc (.cells #[.int .i64 0,.string {data:=#[]},.bool false,.slice none 0 0,.slice none 0 0,.slice none 0 0,.slice none 0 0] 35)=A:=⟨_,rfl⟩
 obtain ⟨A3,hA3⟩:∃A,A2.alloc (.cells #[.int .i64 k,.string nm,.bool mn,.slice la ln lc,.slice na nn nc,.slice ka kn kc,.slice aa an ac] 35)=A:=⟨_,rfl⟩
 obtain ⟨A4,rC⟩:∃A,A3.alloc (.cells #[.slice (some ⟨s+1+1,0,none⟩) 1 1] 32)=A:=⟨_,rfl⟩
 have z1:A1.heap.size=s+1:=by rw [<- hA1,<- hs];simp
 have z2:A2.heap.size=s+1+1:=by rw [<- hA2,World.size_alloc,z1]
 have z3:A3.heap.size=s+1+1+1:=by rw [<- hA3,World.size_alloc,z2]
 have z4:A4.heap.size=s+4:=by rw [<- rC,World.size_alloc,z3]
 have x1:Bx A1 s F.vals:=by rw [hv,<- hA1,<- hs];exact Bx.new _ _ _
 have y2:Bx A2 (s+1) [.int .i64 0,.string {data:=#[]},.bool false,.slice none 0 0,.slice none 0 0,.slice none 0 0,.slice none 0 0]:=by rw [<- hA2,<- z1];exact Bx.new _ _ _
 have x3:Bx A3 (s+1+1) F.vals:=by rw [hv,<- hA3,<- z2];exact Bx.new _ _ _
 have x4:Bx A4 (s+1+1+1) [.slice (some ⟨s+1+1,0,none⟩) 1 1]:=by rw [<- rC,<- z3];exact Bx.new _ _ _
 have qj:A2.heap[s+1]? =some (.cells #[.int .i64 0,.string {data:=#[]},.bool false,.slice none 0 0,.slice none 0 0,.slice none 0 0,.slice none 0 0] 35):=by rw [<- hA2,<- z1];exact bH _ _
 have k12:Kept (λ_=>True) A1 A2:=by rw [<- hA2];exact Kept.alloc _ _ _
 have k23:Kept (λ_=>True) A2 A3:=by rw [<- hA3];exact Kept.alloc _ _ _
 have Lb:Kept (λ_=>True) A3 A4:=by rw [<- rC];exact Kept.alloc _ _ _
 have b1:Below W.heap.size W A1:=by rw [<- hA1];exact below_alloc1 _ _
 have b4:Below W.heap.size W A4:=Below.kept b1 ((k12.trans k23).trans Lb) (λ_ _=>trivial) (Nat.le_refl _);have rt:RT A4 (s+1+1) F:=RT.make ho hf hw b4 (x3.kept Lb trivial) (by omega) (by omega) (by omega);have HG:Hid (Calls Tryz.prog 48 #[.slice (some ⟨s+1+1+1,0,none⟩) 1 1] A4 λe W'=>∃G,e=.returned (.pointer (some ⟨G,0,none⟩))∧Hid (GE A4 W' (s+1+1) F G)):=Lc rt (x4.ae 0 _ rfl);have EY:Hid (Bx A4 s F.vals):=x1.kept ((k12.trans k23).trans Lb) trivial;have Ld:Hid (Bx A4 (s+1) [.int .i64 0,.string {data:=#[]},.bool false,.slice none 0 0,.slice none 0 0,.slice none 0 0,.slice none 0 0]):=y2.kept (k23.trans Lb) trivial;have HHA:Hid (A4.heap[s+1]? =some (.cells #[.int .i64 0,.string {data:=#[]},.bool false,.slice none 0 0,.slice none 0 0,.slice none 0 0,.slice none 0 0] 35)):=((k23.trans Lb).block (s+1) (by omega) trivial).trans qj;have HZ:=hide z4;have sV:=hide b4;have HV:=hide hv
 have HA1:=hide hA1;have HA2:=hide hA2;have Za:=hide hA3;have Zb:=hide rC;have HZ1:=hide z1;have HZ2:=hide z2;have HZ3:=hide z3;have HS:=hide hs;have Rx:=hide htc;clear qj htc hf hw ho hv hA1 hA2 hA3 rC z1 z2 z3 z4 x1 y2 x3 x4 k12 k23 Lb b1 b4 rt hs;go_enter Tryz.func23,Tryz.ntmps23
 go_upto_region 2 with fail
 rw [HS.out,HA1.out,HA2.out,Za.out]
 go_upto_region 3 with (go_at_call 48;rw [HZ3.out,Zb.out];refine HG.out.mono ?_;rintro e Wg ⟨G,rfl,hge⟩;have hmk:=Zc Wg)
 obtain ⟨TB,Ah⟩:∃t,Wg.heap.size=t:=⟨_,rfl⟩
 rw [Ah];rw [Ah] at hmk;obtain ⟨B1,hB1⟩:∃B1,(Wg.alloc (.map #[] 0)).alloc (.cells #[.pointer (some ⟨G,0,none⟩),.map none,.slice none 0 0,.slice none 0 0,.slice none 0 0,.map none,.slice none 0 0,.slice none 0 0,.slice none 0 0,.map (some TB),.slice none 0 0,.int .i64 0,.slice none 0 0,.slice none 0 0,.slice none 0 0] 98)=B1:=⟨_,rfl⟩
 rw [hB1];have xB:Bx B1 (TB+1) [.pointer (some ⟨G,0,none⟩),.map none,.slice none 0 0,.slice none 0 0,.slice none 0 0,.map none,.slice none 0 0,.slice none 0 0,.slice none 0 0,.map (some TB),.slice none 0 0,.int .i64 0,.slice none 0 0,.slice none 0 0,.slice none 0 0]:=by
  rw [<- hB1]
  have:=Bx.new (Wg.alloc (.map #[] 0)) [.pointer (some ⟨G,0,none⟩),.map none,.slice none 0 0,.slice none 0 0,.slice none 0 0,.map none,.slice none 0 0,.slice none 0 0,.slice none 0 0,.map (some TB),.slice none 0 0,.int .i64 0,.slice none 0 0,.slice none 0 0,.slice none 0 0] 98
  rwa [World.size_alloc,Ah] at this
 have tB:TM B1 TB 0:=by
  rw [<- hB1]
  have:=(TM.start Wg).kept (Kept.alloc (λ_=>True) (Wg.alloc (.map #[] 0)) (.cells #[.pointer (some ⟨G,0,none⟩),.map none,.slice none 0 0,.slice none 0 0,.slice none 0 0,.map none,.slice none 0 0,.slice none 0 0,.slice none 0 0,.map (some TB),.slice none 0 0,.int .i64 0,.slice none 0 0,.slice none 0 0,.slice none 0 0] 98)) trivial
  rwa [Ah] at this
 have zB:B1.heap.size=TB+2:=by rw [<- hB1];simp [Ah]
 have bB:Below Wg.heap.size Wg B1:=by rw [<- hB1];exact (below_alloc1 _ _).trans ((below_alloc1 _ _).mono (by simp))
 have Dl:=hide hge.out.low;obtain ⟨g,nb,gy,cn,cm,hcp,mg,hsl,hroot,P,Ry,gp⟩:=hge.out.Rz Rx.out Rw.out bB (xB.ae 0 _ rfl);obtain ⟨nl,hnl⟩:∃nl,g.nl=nl:=⟨_,rfl⟩
 have HM:Hid (Calls Tryz.prog 49 #[.pointer (some ⟨G,0,none⟩),.func (.func 50) #[.pointer (some ⟨TB+1,0,none⟩)] #[]] B1 λe W'=>∃lb,e=.returned (.slice (some ⟨lb,0,none⟩) nl nl)∧TB+2<=lb∧(∀l,l < nl->W'.cell? ⟨lb,l,none⟩=some (.int .i64 (g.sL l)))∧Below B1.heap.size B1 W'):=by
  have:=IA mg
  rw [hcp,hnl,zB] at this;rw [zB];exact this
 have HNL:Hid (nl<=10000000):=by unfold Hid;rw [<- hnl];exact mg.ok.lim.1
 rw [hnl] at hsl hroot gp;have xV:=hide hsl;have Zd:=hide hroot;have HGP:=hide gp;have Vq:=hide Ry;have HXB:=hide xB;have HTM:=hide tB;have HZB:=hide zB;have Ze:=hide bB;have RA:=hide Ah;have c00:=xB.ae 0 _ rfl;clear hge mg hsl hroot gp Ry xB tB zB bB Ah hB1 hmk hnl hcp HG HA1 HA2 Za Zb HZ1 HZ2 HZ3
 go_upto_region 4 with (go_at_call 49;refine HM.out.mono ?_;rintro e W5 ⟨lb,rfl,hlb,hlc,h5⟩;have x5:=HXB.out.below h5;have c10:=x5.ae 10 _ rfl;have f10:=x5.live 10;have H5:=hide (And.intro hlb (And.intro hlc h5));clear hlb hlc h5)
 have b5:Below Wg.heap.size Wg W5:=Ze.out.trans (H5.out.2.2.mono Ze.out.size);have Oj:=hide (x5.put 10 (.slice (some ⟨lb,0,none⟩) nl nl) (by simp));obtain ⟨W6,Ol⟩:∃W6,W5.setCell ⟨TB+1,10,none⟩ (.slice (some ⟨lb,0,none⟩) nl nl)=W6:=⟨_,rfl⟩
 have b6:Below Wg.heap.size Wg W6:=by
  rw [<- Ol];exact Below.kept b5 (Kept.setCell (λc=>c≠TB+1) _ _ _ (λx=>x rfl)) (λc hc=>by have:=RA.out;show c≠TB+1;omega) (Nat.le_refl _)
 have Vr:Kept (λc=>c≠TB+1) W5 W6:=by rw [<- Ol];exact Kept.setCell _ _ _ _ (λx=>x rfl)
 rw [Ol] at Oj;have Om:∀l,l < nl->W6.cell? ⟨lb,l,none⟩=some (.int .i64 (g.sL l)):=λl hl=>by
  have h1:=H5.out.2.1 l hl;exact (Vr.cell (p:=⟨lb,l,none⟩) (block_lt_of_cell h1) (by have:=H5.out.1;show lb≠TB+1;omega)).trans h1
 have Zf:TM W6 TB 0:=(HTM.out.keep (H5.out.2.2.block TB (by have:=HZB.out;omega))).kept Vr (by show TB≠TB+1;omega);have Zg:Hid (∀V,Kept (λ_=>True) W6 V->Calls Tryz.prog 51 #[.pointer (some ⟨G,0,none⟩),.slice (some ⟨s+1+1,0,none⟩) 1 1] V λe V'=>∃v,e=.returned v∧(∃i:Nat,v=.int .i64 (i:Int)∧(i:Int) < (nl:Int)∧V'.cell? ⟨lb,i,none⟩=some (.int .i64 (g.sL i))∧((g.sL i:Nat):Int)<=8388608∧V'.cell? ⟨TB+1,10,none⟩=some (.slice (some ⟨lb,0,none⟩) nl nl)∧Kept (λ_=>True) W6 V')):=λV kV=>by
  refine (Zd.out V ((Kept.of_below b6 (λ_ hb _=>hb)).trans (kV.mono (λ_ _ _=>trivial)))).mono ?_;rintro e V' ⟨i,rfl,hi,k⟩;have kk:=kV.trans k;have h1:=Om i hi;have h2:=xV.out i hi;exact ⟨_,rfl,i,rfl,by omega,(kk.cell (p:=⟨lb,i,none⟩) (block_lt_of_cell h1) trivial).trans h1,by omega,(Oj.out.kept kk trivial).ae 10 _ rfl,kk⟩
 have y10:W6.drew.cell? ⟨TB+1,10,none⟩=some (.slice (some ⟨lb,0,none⟩) nl nl):=Oj.out.ae 10 _ rfl;have y0:W6.drew.cell? ⟨TB+1,0,none⟩=some (.pointer (some ⟨G,0,none⟩)):=Oj.out.ae 0 _ rfl;have TA:=hide Om;have Zh:=hide Zf;have HB6:=hide b6;rw [Ol];clear b5 b6 Vr Om Zf Ol x5 c10 f10 c00 HM
 go_region_law (first
  | (refine aX (by rfl) 51 #[.pointer (some ⟨G,0,none⟩),.slice (some ⟨s+1+1,0,none⟩) 1 1] (by simp [go_sem]) _ (Zg.out _ (Kept.drew _ _)) ?_;rintro v7 W7 ⟨i,rfl,hi,hli,hle,h10,h7⟩;have K7:=hide h7;have hi0:0 < nl:=(by omega);clear h7)
  | fail)
 all_goals
  clear Zg Zd xV hi hli h10 y10 y0;obtain ⟨q,hq⟩:∃q:Cq,q=⟨TB+1,TB,G,lb,nl,nl,s⟩:=⟨_,rfl⟩
  have k7:=K7.out;have b7:Below Wg.heap.size Wg W7:=Below.kept HB6.out k7 (λ_ _=>trivial) (Nat.le_refl _);have Le:=HZ.out;have Ah:=RA.out;have z7:=b7.size;have x7:=Oj.out.kept k7 trivial;have hzA:s+4<=TB:=by have:=Dl.out.size;omega
  have gd:Gd q W7 P:=HGP.out.gd b7 (by rw [hq]) (by rw [hq]) (by rw [hq];show _<=TB+1;omega) (by rw [hq];show _<=TB;omega) (by rw [hq];show s+4=_;omega);have t7:TM W7 TB 0:=Zh.out.kept k7 trivial;have Zi:=H5.out.1;have l7:∀l,l < nl->W7.cell? ⟨lb,l,none⟩=some (.int .i64 (g.sL l)):=λl hl=>(k7.cell (p:=⟨lb,l,none⟩) (block_lt_of_cell (TA.out l hl)) trivial).trans (TA.out l hl)
  have RB:Below A4.heap.size A4 W7:=Dl.out.trans (b7.mono Dl.out.size);have Zj:Bx W7 s F.vals:=EY.out.below RB;have Zk:Bx W7 (s+1) [.int .i64 0,.string {data:=#[]},.bool false,.slice none 0 0,.slice none 0 0,.slice none 0 0,.slice none 0 0]:=Ld.out.below RB;have hlz:0 < nl->lb < W7.heap.size:=λh=>block_lt_of_cell (l7 0 h)
  have TC:0 < nl:=by
   have:=hi0
   omega
  have zz:Sz q W7:=by
   rw [hq];exact ⟨λi hi=>⟨_,l7 i hi⟩,⟨hlz TC,by show lb≠TB+1;omega,by show lb≠TB;omega,by show lb≠s;omega⟩,⟨Nat.le_refl _,HNL.out⟩⟩
  have Oo:Hid (Calls Tryz.prog 53 #[.pointer (some ⟨TB+1,0,none⟩),.pointer (some ⟨s,0,none⟩),.bool true] W7 λe V'=>e=.returned (.tuple #[])∧Hid (∃n Q sv S,CW q W7 P F V' n Q Q sv S)):=by
   have:=CS.begin (q:=q) Vq.out BA.out (by rw [hq];exact x7) (by rw [hq];exact t7) (by rw [hq];exact Zj) (by rw [hq];show TB+1≠TB;omega) (by rw [hq];show TB+1≠s;omega) (by rw [hq];show TB≠s;omega)
   rw [hq] at this ⊢;exact this
  have RD:=hide gd;have fZ:=hide zz;have HQ:=hide hq;have HY7:=hide Zk;have Oq:=hide RB;clear k7 b7 Le Ah z7 x7 hzA gd t7 Zi l7 RB Zj Zk hlz TC zz hq
  go_upto_region 7 with fail
  go_upto_region 8 with (go_at_call 53;refine Oo.out.mono ?_;rintro e W8 ⟨rfl,hc8⟩)
  obtain ⟨n8,Q8,sv8,S8,Zl⟩:=hc8.out;have Zm:=hide Zl;clear Zl hc8 Oo
  go_loopg [6] (fD Q8) (λg _ wx=>∃n Q sv S,Hid (g=fD Q)∧Hid (CW q W7 P F wx n Q Q sv S))
  case atStart=>exact ⟨n8,Q8,sv8,S8,rfl,Zm⟩
  case round=>
   obtain ⟨n,Q,sv,S,hg,hcw⟩:=hrel;clear Zm;rcases List.eq_nil_or_concat Q with rfl | ⟨Q0,d,e0⟩
   .obtain ⟨⟨qa,qc,c12⟩,g,g0,g1,g2,g3,g4,g5⟩:=hcw.out.fin Rw.out
    rw [HQ.out] at c12 g2;dsimp only at c12 g2;have kb:=hcw.out.cs.kb;have Vs:=hcw.out.cs.lt;have hls:=Oq.out.size;have Le:=HZ.out;have Ah:=RA.out;have hlo:=Dl.out.size;have yw:=HY7.out.kept kb (show q.bs W7 (s+1) from by rw [HQ.out];exact ⟨by omega,by show s+1≠TB+1;omega,by show s+1≠TB;omega,by show s+1≠s;omega⟩);obtain ⟨k',kD,GN,la',GQ,fu,lk',na',GR,bI,Bh,dC,CG,eY,xU,dA,GU,eZ,bG,hx,-⟩:=ag g0;have hgv:g.vals=[.int .i64 k',.string kD,.bool GN,.slice la' GQ fu,.slice na' GR bI,.slice dC CG eY,.slice dA GU eZ]:=by rw [hx];rfl
    rw [hgv] at g2;have d0:=g2 0 _ rfl;have d1:=g2 1 _ rfl;have d2:=g2 2 _ rfl;have d3:=g2 3 _ rfl;have d4:=g2 4 _ rfl;have d5:=g2 5 _ rfl;have d6:=g2 6 _ rfl;simp only [Nat.zero_add] at d0 d1 d2 d3 d4 d5 d6;have e0:=yw.ae 0 _ rfl;have e1:=yw.ae 1 _ rfl;have e2:=yw.ae 2 _ rfl;have e3:=yw.ae 3 _ rfl;have e4:=yw.ae 4 _ rfl;have e5:=yw.ae 5 _ rfl;have e6:=yw.ae 6 _ rfl;have f0:=yw.live 0;have f1:=yw.live 1;have f2:=yw.live 2;have f3:=yw.live 3;have f4:=yw.live 4;have f5:=yw.live 5;have f6:=yw.live 6;have Mv:Hid (wr.heap[s+1]? =some (.cells #[.int .i64 0,.string {data:=#[]},.bool false,.slice none 0 0,.slice none 0 0,.slice none 0 0,.slice none 0 0] 35)):=
     (kb.block (s+1) (by omega) (show q.bs W7 (s+1) from by rw [HQ.out];exact ⟨by omega,by show s+1≠TB+1;omega,by show s+1≠TB;omega,by show s+1≠s;omega⟩)).trans ((Oq.out.block (s+1) (by omega)).trans HHA.out)
    have pK:Hid (∀V,Kept (λc=>c≠s+1) wr V->∃g:Fo,Ending.returned (.agg #[.int .i64 k',.string kD,.bool GN,.slice la' GQ fu,.slice na' GR bI,.slice dC CG eY,.slice dA GU eZ])=Ending.returned (.agg g.vals.toArray)∧g.aG F∧Own W.heap.size V g∧Below W.heap.size W V):=λV kV=>by
     have hHS:=HS.out;have kS:Kept (λc=>c < W.heap.size∨W7.heap.size<=c) wr V:=kV.mono (λc _ hc=>by rcases hc with e | e <;> omega);refine ⟨g,by rw [hgv],g1,⟨(g3.kept kV (λc hc=>⟨by have:=hc.1;omega,hc.2⟩)).mono (λc hc=>⟨by have:=hc.1;omega,by have:=hc.2;have:=kV.size;omega⟩),g4,g5.kept kV (λc hc=>by have:=g3.bu c hc;exact ⟨by have:=this.1;omega,this.2⟩)⟩,?_⟩;have b7W:Below W.heap.size W W7:=sV.out.trans (Oq.out.mono sV.out.size);have b8:Below W.heap.size W wr:=Below.kept b7W kb (λc hc=>by rw [HQ.out];exact ⟨by omega,by show c≠TB+1;omega,by show c≠TB;omega,by show c≠s;omega⟩) (Nat.le_refl _);exact Below.kept b8 kV (λc hc=>by show c≠s+1;omega) (Nat.le_refl _)
    clear kb Vs hls Le Ah hlo yw hx g2 hcw;go_wp2_with fail;refine bodyPost_ret (U9 Mv.out rfl) rfl ?_;exact pK.out _ (Kept.set (Kept.set (Kept.set (Kept.set (Kept.set (Kept.set (Kept.set (Kept.refl _ _) (λx=>x rfl)) (λx=>x rfl)) (λx=>x rfl)) (λx=>x rfl)) (λx=>x rfl)) (λx=>x rfl)) (λx=>x rfl))
   .rw [List.concat_eq_append] at e0
    subst e0;obtain ⟨r,cap,rfl,p1,p2,p3,E5⟩:=hcw.out.pop;obtain ⟨n0,hn0⟩:∃n0,Q0.length=n0:=⟨_,rfl⟩
    rw [hn0] at p1 p2 p3 E5;obtain ⟨m,hm⟩:∃m,n0+1=m:=⟨_,rfl⟩
    rw [hm] at p3 E5;have hmb:m<=4000001:=by
     have h1:=hcw.out.pt;have h2:=wJ (Q0++[d]);simp only [List.length_append,List.length_cons,List.length_nil] at h2;omega
    have hmi:(m:Int) - 1=(n0:Int):=by omega
    have hm0:(0:Int) < (m:Int):=by omega
    have hnm:(n0:Int) < (m:Int):=by omega
    have hnc:n0<=cap:=by omega
    have Zn:(n0:Int)<=(cap:Int):=by omega
    obtain ⟨V1,hV1⟩:∃V1,wr.alloc (.cells #[.pointer (some ⟨d.b,d.o,none⟩),.bool true] 104)=V1:=⟨_,rfl⟩
    have k1:Kept (λ_=>True) wr V1:=by rw [<- hV1];exact Kept.alloc _ _ _
    have bv:Bx V1 wr.heap.size [.pointer (some ⟨d.b,d.o,none⟩),.bool true]:=by rw [<- hV1];exact Bx.new _ _ _
    obtain ⟨⟨c12,f12⟩,Vt⟩:=E5 V1 k1;obtain ⟨⟨JF,-⟩,-⟩:=E5 wr (Kept.refl _ _);rw [HQ.out] at c12 f12 JF;dsimp only at c12 f12 JF;have hrr:r≠TB+1:=by
     have:=(hcw.out.cs.hi r rfl).1
     have:=hcw.out.cs.lt.1.1
     rw [HQ.out] at this;dsimp only at this;omega
    obtain ⟨V2,hV2⟩:∃V2,V1.setCell ⟨TB+1,12,none⟩ (.slice (some ⟨r,0,none⟩) n0 cap)=V2:=⟨_,rfl⟩
    have hw2:wr.heap.size≠TB+1:=by have:=block_lt_of_cell JF;dsimp only at this;omega
    have Vu:Bx V2 wr.heap.size [.pointer (some ⟨d.b,d.o,none⟩),.bool true]:=by rw [<- hV2];exact bv.kept (Kept.setCell (λc=>c≠TB+1) _ _ _ (λx=>x rfl)) hw2
    have b0:=Vu.ae 0 _ rfl;have b1:=Vu.ae 1 _ rfl;have HRD:Hid (Calls Tryz.prog 54 #[.pointer (some ⟨TB+1,0,none⟩),.agg #[.pointer (some ⟨d.b,d.o,none⟩),.bool true]] V2 λe V'=>e=.returned (.tuple #[])∧Hid (∃n' Q' sv' S',CW q W7 P F V' n' Q' Q' sv' S'∧fD Q' < fD (Q0++[d]))):=by
     have e1:q.CB=TB+1:=by rw [HQ.out]
     rw [e1,hV2] at Vt
     have:=Vt.round RD.out fZ.out
     rw [e1] at this;exact this
    have gD:=hide hV1;have qW:=hide hV2;have Q7:=hide hg.out;unfold Nd.ptr at p1;clear hcw E5 k1 bv Vu Vt hV1 hV2 hn0 hm
    go_upto_region 11 with fail
    rw [gD.out]
    go_upto_region 12 with fail
    rw [qW.out];go_wp2_with (go_at_call 54;refine HRD.out.mono ?_;rintro e V4 ⟨rfl,h4⟩);obtain ⟨n',Q',sv',S',h5,h6⟩:=h4.out;go_roundg (fD Q')
    case measure=>rw [Q7.out];exact h6
    case rel=>exact ⟨n',Q',sv',S',rfl,h5⟩
def xP (V:World) (a:Option Addr) (L:List ByteArray):Prop:=0 < L.length->∃b o,a=some ⟨b,o,none⟩∧∀i t,L[i]? =some t->V.cell? ⟨b,o+i,none⟩=some (.string t)
def fV (t:ByteArray) (L:List ByteArray):Bool:=L.any (λx=>t.toList==x.toList)
theorem PV {V:World} {a:Option Addr} {n c:Nat} {L:List ByteArray} (hn:n=L.length) (hb:n<=10000000) (hv:xP V a L) (t:ByteArray):
  Calls Tryz.prog 184 #[.slice a n c,.string t] V λe V'=>(∃j:Int,e=.returned (.int .i64 j)∧(0<=j↔fV t L=true))∧V'=V:=by
 have ku:=hide hn;have HV:=hide hv;clear hn hv;go_enter Tryz.func184,Tryz.ntmps184
 go_upto_region 2 with fail
 go_loopw [5,8] (λ_ s8 wr=>∃i:Nat,s8=.int .i64 (i:Int)∧i<=n∧fV t (L.take i)=false∧wr=V) (λ_ s8 _=>n - (intOf s8).toNat)
 case atStart=>exact ⟨0,rfl,Nat.zero_le _,by simp [fV],rfl⟩
 case round=>
  obtain ⟨i,rfl,hin,hni,rfl⟩:=hrel;have VU:=hide hni
  by_cases hi:i < n
  .have hii:(i:Int) < (n:Int):=by omega
   obtain ⟨x,hx⟩:∃x,L[i]? =some x:=⟨_,List.getElem?_eq_getElem (by rw [<- ku.out];exact hi)⟩
   obtain ⟨b,o,rfl,hcs⟩:=HV.out (by rw [<- ku.out];omega);have hc:=hcs i x hx;have HX:=hide hx;clear hni hx hcs
   cases IM:(t.toList==x.toList) with
   | true=>
    go_wp2_with fail;go_ret;refine ⟨⟨i,rfl,?_⟩,rfl⟩
    have:fV t L=true:=List.any_eq_true.2 ⟨x,List.mem_of_getElem? HX.out,IM⟩
    simp [this]
   | false=>
    go_wp2_with fail;go_roundw
    case rel=>
     refine ⟨i+1,by go_num,by omega,?_,trivial⟩;have h1:=VU.out;unfold fV at h1 ⊢;rw [List.take_add_one,HX.out,List.any_append,h1];simp [IM]
    case measure=>simp [intOf];omega
  .have hii:¬(i:Int) < (n:Int):=by omega
   have hnm:¬fV t L=true:=by rw [List.take_of_length_le (by rw [<- ku.out];omega)] at hni;simp [hni]
   clear hni;go_wp2_with fail;go_ret;exact ⟨⟨-1,rfl,by decide⟩,rfl⟩
theorem si {V:World} {a:Option Addr} {n c:Nat} {L:List ByteArray} (hn:n=L.length) (hb:n<=10000000) (hv:xP V a L) (t:ByteArray):
  Calls Tryz.prog 183 #[.slice a n c,.string t] V λe V'=>e=.returned (.bool (fV t L))∧V'=V:=by
 have HI:=hide (PV (c:=c) hn hb hv t);clear hn hb hv;go_enter Tryz.func183,Tryz.ntmps183;go_wp2_with (go_at_call 184;refine HI.out.mono ?_;rintro e V1 ⟨⟨j,rfl,hj⟩,rfl⟩);go_ret;exact ⟨rfl,rfl⟩
def Cu (f t:ByteArray) (nm:ByteArray):ByteArray:=if nm.toList==f.toList then t else nm
def wW (f t:ByteArray) (k:Value) (nm:Value):Value:=
 match k,nm with
 | .int _ 1,.string s=>.string (Cu f t s)
 | _,v=>v
def zO (f:ByteArray) (k nm:Value):Bool:=
 match k,nm with
 | .int _ 8,.string s=>!(s.toList==f.toList)
 | _,_=>true
def uF (f:ByteArray) (k:Value) (ns:List ByteArray):Bool:=
 match k with
 | .int _ 1=>false
 | .int _ 6=>!(fV f ns)
 | .int _ 7=>!(fV f ns)
 | _=>true
def fe:Fo->List ByteArray
 | .v (.string x) r=>x ::fe r
 | _=>[]
mutual
def dH (f t:ByteArray) (x y:Bool):Fo->Fo
 | .v k (.v nm (.v mn (.s la ln lc lk (.s na nn nc nk (.s ka kn kc kk (.s aa an ac ak r))))))=>
  .v k (.v (if x then wW f t k nm else nm) (.v mn (.s la ln lc lk (.s na nn nc nk (.s ka kn kc (dH f t (x && uF f k (fe nk)) (x && (uF f k (fe nk) && zO f k nm)) kk) (.s aa an ac (jZ f t (x && (uF f k (fe nk) && zO f k nm)) ak) (dH f t y y r)))))))
 | F=>F
def jZ (f t:ByteArray) (x:Bool):Fo->Fo
 | .v au (.s ca cn cc ck (.v k (.v nm (.v mn (.s la ln lc lk (.s na nn nc nk (.s ka kn kc kk (.s aa an ac ak r))))))))=>
  .v au (.s ca cn cc ck (.v k (.v (if x && !(fV f (fe ck)) then wW f t k nm else nm) (.v mn (.s la ln lc lk (.s na nn nc nk (.s ka kn kc (dH f t (x && !(fV f (fe ck)) && uF f k (fe nk)) (x && !(fV f (fe ck)) && (uF f k (fe nk) && zO f k nm)) kk) (.s aa an ac (jZ f t (x && !(fV f (fe ck)) && (uF f k (fe nk) && zO f k nm)) ak) (jZ f t x r)))))))))
 | F=>F
end
theorem dY (f t:ByteArray) (x y:Bool):dH f t x y .nil=.nil:=by rw [dH];intros;contradiction
theorem gI (f t:ByteArray) (x:Bool):jZ f t x .nil=.nil:=by rw [jZ];intros;contradiction
theorem iN (f t:ByteArray) (x y:Bool) (k nm mn:Value) (la na ka aa:Option Addr) (ln lc nn nc kn kc an ac:Nat) (lk nk kk ak r:Fo):
  dH f t x y (.v k (.v nm (.v mn (.s la ln lc lk (.s na nn nc nk (.s ka kn kc kk (.s aa an ac ak r)))))))=.v k (.v (if x then wW f t k nm else nm) (.v mn (.s la ln lc lk (.s na nn nc nk (.s ka kn kc (dH f t (x && uF f k (fe nk)) (x && (uF f k (fe nk) && zO f k nm)) kk) (.s aa an ac (jZ f t (x && (uF f k (fe nk) && zO f k nm)) ak) (dH f t y y r))))))):=by rw [dH]
theorem lU (f t:ByteArray) (x:Bool) (au:Value) (ca:Option Addr) (cn cc:Nat) (ck:Fo) (k nm mn:Value) (la na ka aa:Option Addr) (ln lc nn nc kn kc an ac:Nat) (lk nk kk ak r:Fo):
  jZ f t x (.v au (.s ca cn cc ck (.v k (.v nm (.v mn (.s la ln lc lk (.s na nn nc nk (.s ka kn kc kk (.s aa an ac ak r)))))))))=.v au (.s ca cn cc ck (.v k (.v (if x && !(fV f (fe ck)) then wW f t k nm else nm) (.v mn (.s la ln lc lk (.s na nn nc nk (.s ka kn kc (dH f t (x && !(fV f (fe ck)) && uF f k (fe nk)) (x && !(fV f (fe ck)) && (uF f k (fe nk) && zO f k nm)) kk) (.s aa an ac (jZ f t (x && !(fV f (fe ck)) && (uF f k (fe nk) && zO f k nm)) ak) (jZ f t x r))))))))):=by rw [jZ]
theorem jW (f t:ByteArray):∀(m:Nat) (F:Fo) (n:Nat),F.size<=m->
  (Fit E F (rep (E 3) n)->dH f t false false F=F∧∀x y,(dH f t x y F).ah=F.ah∧(dH f t x y F).len=F.len)∧
  (Fit E F (rep (E 2) n)->jZ f t false F=F∧∀x,(jZ f t x F).ah=F.ah∧(jZ f t x F).len=F.len):=by
 intro m
 induction m with
 | zero=>
  intro F n h
  cases F with
  | nil=>exact ⟨λ_=>⟨dY _ _ _ _,λx y=>by rw [dY];exact ⟨rfl,rfl⟩⟩,λ_=>⟨gI _ _ _,λx=>by rw [gI];exact ⟨rfl,rfl⟩⟩⟩
  | v x r=>simp only [Fo.size] at h;omega
  | s a n c ks r=>simp only [Fo.size] at h;omega
 | succ m ih=>
  intro F n h
  cases n with
  | zero=>exact ⟨λhf=>by rw [ai hf];exact ⟨dY _ _ _ _,λx y=>by rw [dY];exact ⟨rfl,rfl⟩⟩,λhf=>by rw [ai hf];exact ⟨gI _ _ _,λx=>by rw [gI];exact ⟨rfl,rfl⟩⟩⟩
  | succ n=>
   refine ⟨λhf=>?_,λhf=>?_⟩
   .obtain ⟨x,q,rfl,hx,hq,hl⟩:=Fit.split (fs:=E 3) (gs:=rep (E 3) n) hf
    obtain ⟨k,nm,mn,la,ln,lc,lk,na,nn,nc,nk,ka,kn,kc,kk,aa,an,ac,ak,rfl,-,-,h3,h4,h5,h6⟩:=ag hx;simp only [Fo.app,Fo.size] at h;obtain ⟨i1,j1⟩:=(ih kk kn (by omega)).1 h5;obtain ⟨i2,j2⟩:=(ih ak an (by omega)).2 h6;obtain ⟨i3,j3⟩:=(ih q n (by omega)).1 hq;simp only [Fo.app];refine ⟨by rw [iN];simp [i1,i2,i3],λx y=>?_⟩;rw [iN];simp only [Fo.ah,Fo.len,(j1 _ _).1,(j1 _ _).2,(j2 _).1,(j2 _).2,(j3 _ _).1,(j3 _ _).2];exact ⟨trivial,trivial⟩
   .obtain ⟨x,q,rfl,hx,hq,hl⟩:=Fit.split (fs:=E 2) (gs:=rep (E 2) n) hf
    obtain ⟨au,ca,cn,cc,ck,y,rfl,-,-,hy⟩:=aK hx;obtain ⟨k,nm,mn,la,ln,lc,lk,na,nn,nc,nk,ka,kn,kc,kk,aa,an,ac,ak,rfl,-,-,h3,h4,h5,h6⟩:=ag hy;simp only [Fo.app,Fo.size] at h;obtain ⟨i1,j1⟩:=(ih kk kn (by omega)).1 h5;obtain ⟨i2,j2⟩:=(ih ak an (by omega)).2 h6;obtain ⟨i3,j3⟩:=(ih q n (by omega)).2 hq;simp only [Fo.app];refine ⟨by rw [lU];simp [i1,i2,i3],λx=>?_⟩;rw [lU];simp only [Fo.ah,Fo.len,(j1 _ _).1,(j1 _ _).2,(j2 _).1,(j2 _).2,(j3 _).1,(j3 _).2];exact ⟨trivial,trivial⟩
theorem zz62 {P:Prop} (h:P:=by
 have HR:=hide (HT.out ht);clear HT HF;go_wp2_with (go_at_call 183;refine HC.out.mono ?_;rintro e V2 ⟨rfl,rfl⟩);exact bodyPost_end (results_none rfl _ _ _) rfl ⟨rfl,HR.out⟩):P:=h
theorem zz189 {P:Prop} (h:P:=by
 exact bodyPost_end (results_none rfl _ _ _) rfl ⟨rfl,r3⟩):P:=h
theorem xP.kept {V V':World} {a:Option Addr} {L:List ByteArray} (h:xP V a L) (k:Kept (λ_=>True) V V'):xP V' a L:=λhp=>by
 obtain ⟨b,o,e,hc⟩:=h hp;exact ⟨b,o,e,λi t hi=>(k.cell (p:=⟨b,o+i,none⟩) (block_lt_of_cell (hc i t hi)) trivial).trans (hc i t hi)⟩
theorem EU {V:World} {f t:ByteArray} {a:Option Addr} {n c:Nat} {L:List ByteArray} (hn:n=L.length) (hb:n<=10000000) (hv:xP V a L) {xM:Array Value} {R:World->Prop}
  (h1:fV f L=true->∀V',Kept (λ_=>True) V V'->R V') (h2:fV f L=false->∀V',Kept (λ_=>True) V V'->Calls Tryz.prog 154 xM V' λe W'=>e=.returned (.tuple #[])∧R W'):
  Calls Tryz.prog 182 #[.agg #[.string f,.string t],.slice a n c,.func (.func 154) #[] xM] V λe W'=>e=.returned (.tuple #[])∧R W':=by
 obtain ⟨V1,hV1⟩:∃V1,V.alloc (.cells #[.string f,.string t] 53)=V1:=⟨_,rfl⟩
 have k1:Kept (λ_=>True) V V1:=by rw [<- hV1];exact Kept.alloc _ _ _
 have bx:Bx V1 V.heap.size [.string f,.string t]:=by rw [<- hV1];exact Bx.new _ _ _
 have c0:=bx.ae 0 _ rfl;have HC:=hide (si (c:=c) hn hb (hv.kept k1) f);have gD:=hide hV1;have HT:=hide (λh=>h1 h V1 k1);have HF:=hide (λh=>h2 h V1 k1);clear hn hb hv h1 h2 hV1 k1 bx;go_enter Tryz.func182,Tryz.ntmps182
 go_upto_region 1 with fail
 rw [gD.out]
 cases ht:fV f L with
 | true=>
  exact zz62
 | false=>
  have HR:=hide (HF.out ht);clear HT HF;go_wp2_with (first | (go_at_call 183;refine HC.out.mono ?_;rintro e V2 ⟨rfl,rfl⟩) | (go_at_call 154;refine HR.out.mono ?_;rintro e V3 ⟨rfl,r3⟩));exact zz189
theorem FD {V:World} {f t:ByteArray} {a:Option Addr} {n c:Nat} {L:List ByteArray} (hn:n=L.length) (hb:n<=10000000) (hv:xP V a L) {xM:Array Value} {R:World->Prop}
  (h1:fV f L=true->∀V',Kept (λ_=>True) V V'->R V') (h2:fV f L=false->∀V',Kept (λ_=>True) V V'->Calls Tryz.prog 173 xM V' λe W'=>e=.returned (.tuple #[])∧R W'):
  Calls Tryz.prog 182 #[.agg #[.string f,.string t],.slice a n c,.func (.func 173) #[] xM] V λe W'=>e=.returned (.tuple #[])∧R W':=by
 obtain ⟨V1,hV1⟩:∃V1,V.alloc (.cells #[.string f,.string t] 53)=V1:=⟨_,rfl⟩
 have k1:Kept (λ_=>True) V V1:=by rw [<- hV1];exact Kept.alloc _ _ _
 have bx:Bx V1 V.heap.size [.string f,.string t]:=by rw [<- hV1];exact Bx.new _ _ _
 have c0:=bx.ae 0 _ rfl;have HC:=hide (si (c:=c) hn hb (hv.kept k1) f);have gD:=hide hV1;have HT:=hide (λh=>h1 h V1 k1);have HF:=hide (λh=>h2 h V1 k1);clear hn hb hv h1 h2 hV1 k1 bx;go_enter Tryz.func182,Tryz.ntmps182
 go_upto_region 1 with fail
 rw [gD.out]
 cases ht:fV f L with
 | true=>
  exact zz62
 | false=>
  have HR:=hide (HF.out ht);clear HT HF;go_wp2_with (first | (go_at_call 183;refine HC.out.mono ?_;rintro e V2 ⟨rfl,rfl⟩) | (go_at_call 173;refine HR.out.mono ?_;rintro e V3 ⟨rfl,r3⟩));exact zz189
theorem FE {V:World} {f t:ByteArray} {a:Option Addr} {n c:Nat} {L:List ByteArray} (hn:n=L.length) (hb:n<=10000000) (hv:xP V a L) {xM:Array Value} {R:World->Prop}
  (h1:fV f L=true->∀V',Kept (λ_=>True) V V'->R V') (h2:fV f L=false->∀V',Kept (λ_=>True) V V'->Calls Tryz.prog 174 xM V' λe W'=>e=.returned (.tuple #[])∧R W'):
  Calls Tryz.prog 182 #[.agg #[.string f,.string t],.slice a n c,.func (.func 174) #[] xM] V λe W'=>e=.returned (.tuple #[])∧R W':=by
 obtain ⟨V1,hV1⟩:∃V1,V.alloc (.cells #[.string f,.string t] 53)=V1:=⟨_,rfl⟩
 have k1:Kept (λ_=>True) V V1:=by rw [<- hV1];exact Kept.alloc _ _ _
 have bx:Bx V1 V.heap.size [.string f,.string t]:=by rw [<- hV1];exact Bx.new _ _ _
 have c0:=bx.ae 0 _ rfl;have HC:=hide (si (c:=c) hn hb (hv.kept k1) f);have gD:=hide hV1;have HT:=hide (λh=>h1 h V1 k1);have HF:=hide (λh=>h2 h V1 k1);clear hn hb hv h1 h2 hV1 k1 bx;go_enter Tryz.func182,Tryz.ntmps182
 go_upto_region 1 with fail
 rw [gD.out]
 cases ht:fV f L with
 | true=>
  exact zz62
 | false=>
  have HR:=hide (HF.out ht);clear HT HF;go_wp2_with (first | (go_at_call 183;refine HC.out.mono ?_;rintro e V2 ⟨rfl,rfl⟩) | (go_at_call 174;refine HR.out.mono ?_;rintro e V3 ⟨rfl,r3⟩));exact zz189
end Go.Proofs.YthfnobboalhihaaGreat
