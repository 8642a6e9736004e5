import Derived.Test.YthfnobboalhihaaGreatKx
set_option maxHeartbeats 2000000
set_option maxRecDepth 100000
namespace Go.Proofs.YthfnobboalhihaaGreat
open Go.RowKit Go.Joins
theorem zz171 {P:Prop} (h:P:=by
 have e:((q:Nat):Int)=(q:Int):=by omega
 unfold Hid;rw [<- e];exact jX (q) wr.drew (by have:=dm.out;omega) (by have:=dm.out;omega)):P:=h
theorem lW (m:Nat):xX Tryz.prog E 35 (E 1) m:=by
 intro F n nb a cap k W hm hf hn hk0 hk hs;have hmx:n<=9223372036854775807:=by have h2:=hs.1;have h3:=hs.2.1;simp only [maxLen] at h3;omega
 have HR:=hide (ru.start hf hs);have HM:=hide hm;have HK:=hide hk;clear hf hs hm hk;go_enter Tryz.func35,Tryz.ntmps35;go_wp2_with fail
 go_loopw [1,5] (λs1 s5 wr=>∃(i q:Nat) (r:Fo),s1=.int .i64 (q:Int)∧s5=.int .i64 i∧i<=n∧Hid (0 < q∧q+r.ct=k+F.ct)∧Hid (r.size<=F.size)∧Hid (ru E (E 1) n nb a i q r wr)∧Hid (Below W.heap.size W wr)) (λ_ s5 _=>n - (intOf s5).toNat)
 case atStart=>exact ⟨0,k,F,rfl,rfl,Nat.zero_le _,⟨hk0,rfl⟩,Nat.le_refl _,HR,Below.refl _ _⟩
 case round=>
  obtain ⟨i,q,r,rfl,rfl,hin,hq,hrs,hR,hB⟩:=hrel
  by_cases hi:i < n
  .obtain ⟨x,rr,b,o,rfl,hx,rfl,hb,hc,hxs,dx⟩:=hR.out.next hi (by decide)
   have hii:(i:Int) < n:=by omega
   have hct:=hq.out;have hsz:=hrs.out;have hbz:=hB.out.size;clear hR hq hrs;replace hx:Fit E x [.t]:=hx;obtain ⟨x0,F0,rfl,hx0,hx⟩:=aU hx;obtain rfl:=ai hx;simp only [Fo.aW,Fo.ct] at hct;simp only [Fo.aM,Fo.size] at hsz;simp only [Fo.ct] at dx;have hqk:0 < q∧q+(1)<=4294967296:=by have:=HK.out;omega
   have dm:=hide hqk;have hv0:q+1<=4294967296:=by omega
   have Hu:=hide hct;have fZ:=hide hsz;have bM:=hide hbz;have HR1:=hide dx;have C0:=hide hc;clear hxs;clear hc hct hsz hqk hbz dx;have rR:=hide (Below.refl wr.heap.size wr);have tO:wr.cell? ⟨b,o+i,none⟩=some (.string (mt (q))):=by
    have h1:wr.cell? ⟨b,o+i * 1,none⟩=some (.string (mt (q))):=C0.out 0 _ rfl;rw [Nat.mul_one] at h1;refine h1.trans ?_
    skip
    exact zz47
   have hd0:Hid (Below wr.heap.size wr wr.drew):=(Below.refl _ _).drew;have sP:Hid (Calls Tryz.prog 59 #[.int .i64 ((q:Int))] wr.drew λe w'=>e=.returned (.string (mt (q)))∧Below wr.drew.heap.size wr.drew w'):=by
    exact zz171
   have HX0:Hid (∀V,Below wr.heap.size wr V->V.cell? ⟨b,o+i,none⟩=some (.string (mt (q)))):=λV bV=>(bV.cell (p:=⟨b,o+i,none⟩) (by have:=bM.out;have:=rR.out.size;show b < _;omega)).trans tO
   have eD:=HX0.out wr.drew hd0.out;go_wp2_with fail
   go_region_held3 (λV=>V.cell? ⟨b,o+i,none⟩=some (.string (mt (q))))
    (first | with_reducible exact dK | with_reducible exact eD)
    (first | (go_at_call 59;refine sP.out.mono ?_;rintro e w1 ⟨rfl,f1⟩;have G1:=hd0.out.trans (show Below wr.heap.size wr.drew w1 from f1);have dK:=HX0.out w1 G1))
   have gz:=hide (rR.out.trans (G1.mono rR.out.size));have C1:=hide (C0.out.below G1 (by have:=bM.out;have:=rR.out.size;omega));clear G1 f1 dK eD tO HX0 sP hd0;go_wp2_with fail;go_roundw
   case rel=>
    have eN:q+((0)+1)=q+1:=by  omega
    have hr:=HR1.out;rw [eN] at hr;exact ⟨i+1,q+1,rr,by first | rfl | go_num,by go_num,by omega,⟨by have:=dm.out;omega,by have:=Hu.out;omega⟩,(by show _<=_;have:=fZ.out;omega),hr.below gz.out (by have:=bM.out;omega),hB.out.trans (gz.out.mono bM.out)⟩
   case measure=>simp [intOf];omega
  .obtain ⟨rfl,rfl⟩:=hR.out.done hi
   exact zz53
theorem o9 (m:Nat):xX Tryz.prog E 60 (E 0) m:=by
 intro F n nb a cap k W hm hf hn hk0 hk hs;have hmx:n<=9223372036854775807:=by have h2:=hs.1;have h3:=hs.2.1;simp only [maxLen] at h3;omega
 have HR:=hide (ru.start hf hs);have HM:=hide hm;have HK:=hide hk;clear hf hs hm hk;go_enter Tryz.func60,Tryz.ntmps60;go_wp2_with fail
 go_loopw [1,5] (λs1 s5 wr=>∃(i q:Nat) (r:Fo),s1=.int .i64 (q:Int)∧s5=.int .i64 i∧i<=n∧Hid (0 < q∧q+r.ct=k+F.ct)∧Hid (r.size<=F.size)∧Hid (ru E (E 0) n nb a i q r wr)∧Hid (Below W.heap.size W wr)) (λ_ s5 _=>n - (intOf s5).toNat)
 case atStart=>exact ⟨0,k,F,rfl,rfl,Nat.zero_le _,⟨hk0,rfl⟩,Nat.le_refl _,HR,Below.refl _ _⟩
 case round=>
  obtain ⟨i,q,r,rfl,rfl,hin,hq,hrs,hR,hB⟩:=hrel
  by_cases hi:i < n
  .obtain ⟨x,rr,b,o,rfl,hx,rfl,hb,hc,hxs,dx⟩:=hR.out.next hi (by decide)
   have hii:(i:Int) < n:=by omega
   have hct:=hq.out;have hsz:=hrs.out;have hbz:=hB.out.size;clear hR hq hrs;replace hx:Fit E x [.u]:=hx;obtain ⟨x0,F0,rfl,hx0,hx⟩:=jy hx;obtain rfl:=ai hx;simp only [Fo.aW,Fo.ct] at hct;simp only [Fo.aM,Fo.size] at hsz;simp only [Fo.ct] at dx;have hqk:0 < q∧q+(1)<=4294967296:=by have:=HK.out;omega
   have dm:=hide hqk;have hv0:q+1<=4294967296:=by omega
   have Hu:=hide hct;have fZ:=hide hsz;have bM:=hide hbz;have HR1:=hide dx;have C0:=hide hc;clear hxs;clear hc hct hsz hqk hbz dx;have rR:=hide (Below.refl wr.heap.size wr);have tO:wr.cell? ⟨b,o+i,none⟩=some (.int .u32 ((q:Int))):=by
    have h1:wr.cell? ⟨b,o+i * 1,none⟩=some (.int .u32 ((q:Nat):Int)):=C0.out 0 _ rfl;rw [Nat.mul_one] at h1;refine h1.trans ?_
    skip
    exact zz47
   go_wp2_with fail;go_roundw
   case rel=>
    have eN:q+((0)+1)=q+1:=by  omega
    have hr:=HR1.out;rw [eN] at hr;exact ⟨i+1,q+1,rr,by first | rfl | go_num,by go_num,by omega,⟨by have:=dm.out;omega,by have:=Hu.out;omega⟩,(by show _<=_;have:=fZ.out;omega),hr.below rR.out (by have:=bM.out;omega),hB.out.trans (rR.out.mono bM.out)⟩
   case measure=>simp [intOf];omega
  .obtain ⟨rfl,rfl⟩:=hR.out.done hi
   exact zz53
theorem Kn (m:Nat):Xr Tryz.prog E 34 [.b,.s 0] m:=by
 intro F nb k W hm hf hn hk0 hk hs
 skip
 obtain ⟨x0,F0,rfl,hf⟩:=dE hf;obtain ⟨a1,n1,c1,k1,F1,rfl,hf1,hf⟩:=ay hf;obtain rfl:=ai hf;simp only [Fo.size] at hm;simp only [Fo.bZ] at hk ⊢;simp only [Fo.vals];have HK:=hide hk;clear hk;obtain ⟨hs1,-⟩:=hs;have nE:=hide hs1;clear hs1;have HB0:=hide (below_alloc1 W (.cells #[.bool x0,.slice a1 n1 c1] 31));have Q0:=hide (Bx.new W [.bool x0,.slice a1 n1 c1] 31);obtain ⟨w0,hw0⟩:∃V,W.alloc (.cells #[.bool x0,.slice a1 n1 c1] 31)=V:=⟨_,rfl⟩
 rw [hw0] at Q0 HB0;have Gn:=hide hw0;clear hw0;go_enter Tryz.func34,Tryz.ntmps34;go_wp2_with fail;rw [Gn.out];have Xt:=nE.out;have eN1:k=k:=by  omega
 skip
 have fQ:=o9 (k1.size+1) k1 n1 nb a1 c1 k w0 (Nat.lt_succ_self _) hf1 (by have:=HB0.out.size;omega) (by  omega) (by have:=HK.out;omega) (Fo.Sub.below HB0.out (λc hc=>by omega) Xt);refine fQ.mono ?_;clear fQ;rintro e w1 ⟨rfl,b1⟩;have HB1:=hide (HB0.out.trans (b1.mono HB0.out.size));have Q1:=hide (Q0.out.below b1);obtain ⟨q1,hq1⟩:∃q1,k+k1.ct=q1:=⟨_,rfl⟩
 rw [hq1];have dZ:=hide hq1;have Tf:¬(q1:Int) < 0:=by omega
 clear b1 hq1;go_wp2_with fail;go_ret;exact ⟨gH (by have:=dZ.out;omega),HB1.out⟩
theorem vI (m:Nat) (lh:xX Tryz.prog E 36 (E 3) m) (gB:xX Tryz.prog E 37 (E 2) m):xX Tryz.prog E 37 (E 2) (m+1):=by
 intro F n nb a cap k W hm hf hn hk0 hk hs;have hmx:n<=9223372036854775807:=by have h2:=hs.1;have h3:=hs.2.1;simp only [maxLen] at h3;omega
 have HR:=hide (ru.start hf hs);have HM:=hide hm;have HK:=hide hk;clear hf hs hm hk;go_enter Tryz.func37,Tryz.ntmps37;go_wp2_with fail
 go_loopw [1,5] (λs1 s5 wr=>∃(i q:Nat) (r:Fo),s1=.int .i64 (q:Int)∧s5=.int .i64 i∧i<=n∧Hid (0 < q∧q+r.ct=k+F.ct)∧Hid (r.size<=F.size)∧Hid (ru E (E 2) n nb a i q r wr)∧Hid (Below W.heap.size W wr)) (λ_ s5 _=>n - (intOf s5).toNat)
 case atStart=>exact ⟨0,k,F,rfl,rfl,Nat.zero_le _,⟨hk0,rfl⟩,Nat.le_refl _,HR,Below.refl _ _⟩
 case round=>
  obtain ⟨i,q,r,rfl,rfl,hin,hq,hrs,hR,hB⟩:=hrel
  by_cases hi:i < n
  .obtain ⟨x,rr,b,o,rfl,hx,rfl,hb,hc,hxs,dx⟩:=hR.out.next hi (by decide)
   have hii:(i:Int) < n:=by omega
   have hct:=hq.out;have hsz:=hrs.out;have hbz:=hB.out.size;clear hR hq hrs;replace hx:Fit E x [.t,.s 1,.i,.t,.b,.s 0,.s 1,.s 3,.s 2]:=hx;obtain ⟨x0,F0,rfl,hx0,hx⟩:=aU hx;obtain ⟨a1,n1,c1,k1,F1,rfl,hf1,hx⟩:=ay hx;obtain ⟨x2,F2,rfl,hx2,hx⟩:=eu hx;obtain ⟨x3,F3,rfl,hx3,hx⟩:=aU hx;obtain ⟨x4,F4,rfl,hx⟩:=dE hx;obtain ⟨a5,n5,c5,k5,F5,rfl,jg,hx⟩:=ay hx;obtain ⟨a6,n6,c6,k6,F6,rfl,jB,hx⟩:=ay hx;obtain ⟨a7,n7,c7,k7,F7,rfl,xR,hx⟩:=ay hx;obtain ⟨a8,n8,c8,k8,F8,rfl,xS,hx⟩:=ay hx;obtain rfl:=ai hx;simp only [Fo.aW,Fo.ct] at hct;simp only [Fo.aM,Fo.size] at hsz;simp only [Fo.ct] at dx;have hqk:0 < q∧q+(1+k1.ct+1+1+1+k5.ct+k6.ct+k7.ct+k8.ct)<=4294967296:=by have:=HK.out;omega
   have dm:=hide hqk;have hv0:q+4<=4294967296:=by omega
   have Hu:=hide hct;have fZ:=hide hsz;have bM:=hide hbz;have HR1:=hide dx;have C0:=hide hc;obtain ⟨hs1,hs5,hs6,hs7,ug,-⟩:=hxs;have nE:=hide hs1;have oC:=hide hs5;have oD:=hide hs6;have CP:=hide hs7;have Ho:=hide ug;clear hs1 hs5 hs6 hs7 ug;clear hc hct hsz hqk hbz dx;have rR:=hide (Below.refl wr.heap.size wr);have tO:wr.cell? ⟨b,o+i * 9,none⟩=some (.string (mt (q))):=by
    have h1:wr.cell? ⟨b,o+i * 9,none⟩=some (.string (mt (q))):=C0.out 0 _ rfl
    skip
    refine h1.trans ?_
    skip
    exact zz47
   have hd0:Hid (Below wr.heap.size wr wr.drew):=(Below.refl _ _).drew;have sP:Hid (Calls Tryz.prog 59 #[.int .i64 ((q:Int))] wr.drew λe w'=>e=.returned (.string (mt (q)))∧Below wr.drew.heap.size wr.drew w'):=by
    exact zz171
   have HX0:Hid (∀V,Below wr.heap.size wr V->V.cell? ⟨b,o+i * 9,none⟩=some (.string (mt (q)))):=λV bV=>(bV.cell (p:=⟨b,o+i * 9,none⟩) (by have:=bM.out;have:=rR.out.size;show b < _;omega)).trans tO
   have eD:=HX0.out wr.drew hd0.out;go_wp2_with fail
   go_region_held3 (λV=>V.cell? ⟨b,o+i * 9,none⟩=some (.string (mt (q))))
    (first | with_reducible exact dK | with_reducible exact eD)
    (first | (go_at_call 59;refine sP.out.mono ?_;rintro e w1 ⟨rfl,f1⟩;have G1:=hd0.out.trans (show Below wr.heap.size wr.drew w1 from f1);have dK:=HX0.out w1 G1))
   have gz:=hide (rR.out.trans (G1.mono rR.out.size));have C1:=hide (C0.out.below G1 (by have:=bM.out;have:=rR.out.size;omega));clear G1 f1 dK eD tO HX0 sP hd0;have L9:w1.cell? ⟨b,o+i * 9+1,none⟩=some (.slice a1 n1 c1):=C1.out 1 _ rfl;have om:Hid (Calls Tryz.prog 35 #[.slice a1 n1 c1,.int .i64 ((q:Int)+1)] w1 λe w'=>e=.returned (.int .i64 ((q+1+k1.ct:Nat):Int))∧Below w1.heap.size w1 w'):=by
    have e:((q+1:Nat):Int)=(q:Int)+1:=by omega
    unfold Hid;rw [<- e];have hsj:=nE.out;have eN:q+1=q+1:=by  omega
    rw [eN] at hsj;exact lW m k1 n1 nb a1 c1 (q+1) w1 (by have:=HM.out;have:=fZ.out;omega) hf1 (by have:=bM.out;have:=gz.out.size;omega) (by have:=dm.out;omega) (by have:=dm.out;omega) (Fo.Sub.below gz.out (λc hc=>by have:=bM.out;omega) hsj)
   go_wp2_with fail;refine om.out.mono ?_;rintro e w2 ⟨rfl,G2⟩;have HG2:=hide (gz.out.trans (G2.mono gz.out.size));have C2:=hide (C1.out.below G2 (by have:=bM.out;have:=gz.out.size;omega));obtain ⟨q1,hq1⟩:∃q1,q+1+k1.ct=q1:=⟨_,rfl⟩
   rw [hq1];have gN:=hide hq1;have Tf:¬(q1:Int) < 0:=by omega
   have hv2:q1+3<=4294967296:=by have:=dm.out;have:=gN.out;omega
   clear G2 hq1 om L9;have Te:w2.cell? ⟨b,o+i * 9+2,none⟩=some (.int .i64 ((q1:Int))):=by
    have h1:w2.cell? ⟨b,o+i * 9+2,none⟩=some (.int .i64 ((q+1+k1.ct:Nat):Int)):=C2.out 2 _ rfl
    skip
    refine h1.trans ?_
    have:=gN.out
    exact zz47
   have Jh:w2.cell? ⟨b,o+i * 9+3,none⟩=some (.string (mt (q1+1))):=by
    have h1:w2.cell? ⟨b,o+i * 9+3,none⟩=some (.string (mt (q+1+k1.ct+1))):=C2.out 3 _ rfl
    skip
    refine h1.trans ?_
    have:=gN.out
    exact zz47
   have hd3:Hid (Below w2.heap.size w2 w2.drew):=(Below.refl _ _).drew;have yB:Hid (Calls Tryz.prog 59 #[.int .i64 ((q1:Int)+1)] w2.drew λe w'=>e=.returned (.string (mt (q1+1)))∧Below w2.drew.heap.size w2.drew w'):=by
    have e:((q1+1:Nat):Int)=(q1:Int)+1:=by omega
    unfold Hid;rw [<- e];exact jX (q1+1) w2.drew (by have:=dm.out;have:=gN.out;omega) (by have:=dm.out;have:=gN.out;omega)
   have Dj:Hid (∀V,Below w2.heap.size w2 V->V.cell? ⟨b,o+i * 9+3,none⟩=some (.string (mt (q1+1)))):=λV bV=>(bV.cell (p:=⟨b,o+i * 9+3,none⟩) (by have:=bM.out;have:=HG2.out.size;show b < _;omega)).trans Jh
   have eD:=Dj.out w2.drew hd3.out;go_wp2_with fail
   go_region_held3 (λV=>V.cell? ⟨b,o+i * 9+3,none⟩=some (.string (mt (q1+1))))
    (first | with_reducible exact dK | with_reducible exact eD)
    (first | (go_at_call 59;refine yB.out.mono ?_;rintro e w3 ⟨rfl,f3⟩;have G3:=hd3.out.trans (show Below w2.heap.size w2.drew w3 from f3);have dK:=Dj.out w3 G3))
   have lK:=hide (HG2.out.trans (G3.mono HG2.out.size));have C3:=hide (C2.out.below G3 (by have:=bM.out;have:=HG2.out.size;omega));clear G3 f3 dK eD Jh Dj yB hd3;obtain ⟨g4,hg4⟩:∃g,decide ((q1+2) % 3=0)=g:=⟨_,rfl⟩
   have Ma:((((q1:Int)+1+1):Int).tmod 3==0)=g4:=by
    exact zz133
   have HU4:((((q1:Int)+1+1):Int) % 3==0)=g4:=by rw [<- Ma,Int.tmod_eq_emod_of_nonneg (by omega)]
   have Y0:=hide hg4;clear hg4;have abj:w3.cell? ⟨b,o+i * 9+4,none⟩=some (.bool g4):=by
    have h1:w3.cell? ⟨b,o+i * 9+4,none⟩=some (.bool (decide ((q+1+k1.ct+1+1) % 3=0))):=C3.out 4 _ rfl
    skip
    have eR:q+1+k1.ct+1+1=q1+2:=by have:=gN.out;omega
    rw [eR,Y0.out] at h1;exact h1
   have Og:w3.cell? ⟨b,o+i * 9+5,none⟩=some (.slice a5 n5 c5):=C3.out 5 _ rfl;have yC:Hid (Calls Tryz.prog 60 #[.slice a5 n5 c5,.int .i64 ((q1:Int)+1+1+1)] w3 λe w'=>e=.returned (.int .i64 ((q1+3+k5.ct:Nat):Int))∧Below w3.heap.size w3 w'):=by
    have e:((q1+3:Nat):Int)=(q1:Int)+1+1+1:=by omega
    unfold Hid;rw [<- e];have hsj:=oC.out;have eN:q+1+k1.ct+1+1+1=q1+3:=by have:=gN.out;omega
    rw [eN] at hsj;exact o9 m k5 n5 nb a5 c5 (q1+3) w3 (by have:=HM.out;have:=fZ.out;omega) jg (by have:=bM.out;have:=lK.out.size;omega) (by have:=dm.out;have:=gN.out;omega) (by have:=dm.out;have:=gN.out;omega) (Fo.Sub.below lK.out (λc hc=>by have:=bM.out;omega) hsj)
   go_wp2_with fail;refine yC.out.mono ?_;rintro e w4 ⟨rfl,G4⟩;have qh:=hide (lK.out.trans (G4.mono lK.out.size));have C4:=hide (C3.out.below G4 (by have:=bM.out;have:=lK.out.size;omega));obtain ⟨q5,tZ⟩:∃q5,q1+3+k5.ct=q5:=⟨_,rfl⟩
   rw [tZ];have ig:=hide tZ;have Y1:¬(q5:Int) < 0:=by omega
   have hv6:q5+0<=4294967296:=by have:=dm.out;have:=gN.out;have:=ig.out;omega
   clear G4 tZ yC Og;have Oh:w4.cell? ⟨b,o+i * 9+6,none⟩=some (.slice a6 n6 c6):=C4.out 6 _ rfl;have yD:Hid (Calls Tryz.prog 35 #[.slice a6 n6 c6,.int .i64 ((q5:Int))] w4 λe w'=>e=.returned (.int .i64 ((q5+k6.ct:Nat):Int))∧Below w4.heap.size w4 w'):=by
    have e:((q5:Nat):Int)=(q5:Int):=by omega
    unfold Hid;rw [<- e];have hsj:=oD.out;have eN:q+1+k1.ct+1+1+1+k5.ct=q5:=by have:=gN.out;have:=ig.out;omega
    rw [eN] at hsj;exact lW m k6 n6 nb a6 c6 (q5) w4 (by have:=HM.out;have:=fZ.out;omega) jB (by have:=bM.out;have:=qh.out.size;omega) (by have:=dm.out;have:=gN.out;have:=ig.out;omega) (by have:=dm.out;have:=gN.out;have:=ig.out;omega) (Fo.Sub.below qh.out (λc hc=>by have:=bM.out;omega) hsj)
   go_wp2_with fail;refine yD.out.mono ?_;rintro e w5 ⟨rfl,G5⟩;have tC:=hide (qh.out.trans (G5.mono qh.out.size));have C5:=hide (C4.out.below G5 (by have:=bM.out;have:=qh.out.size;omega));obtain ⟨q6,uf⟩:∃q6,q5+k6.ct=q6:=⟨_,rfl⟩
   rw [uf];have lu:=hide uf;have Y2:¬(q6:Int) < 0:=by omega
   have hv7:q6+0<=4294967296:=by have:=dm.out;have:=gN.out;have:=ig.out;have:=lu.out;omega
   clear G5 uf yD Oh;have Y3:w5.cell? ⟨b,o+i * 9+7,none⟩=some (.slice a7 n7 c7):=C5.out 7 _ rfl;have Md:Hid (Calls Tryz.prog 36 #[.slice a7 n7 c7,.int .i64 ((q6:Int))] w5 λe w'=>e=.returned (.int .i64 ((q6+k7.ct:Nat):Int))∧Below w5.heap.size w5 w'):=by
    have e:((q6:Nat):Int)=(q6:Int):=by omega
    unfold Hid;rw [<- e];have hsj:=CP.out;have eN:q+1+k1.ct+1+1+1+k5.ct+k6.ct=q6:=by have:=gN.out;have:=ig.out;have:=lu.out;omega
    rw [eN] at hsj;exact lh k7 n7 nb a7 c7 (q6) w5 (by have:=HM.out;have:=fZ.out;omega) xR (by have:=bM.out;have:=tC.out.size;omega) (by have:=dm.out;have:=gN.out;have:=ig.out;have:=lu.out;omega) (by have:=dm.out;have:=gN.out;have:=ig.out;have:=lu.out;omega) (Fo.Sub.below tC.out (λc hc=>by have:=bM.out;omega) hsj)
   go_wp2_with fail;refine Md.out.mono ?_;rintro e w6 ⟨rfl,G6⟩;have Dk:=hide (tC.out.trans (G6.mono tC.out.size));have C6:=hide (C5.out.below G6 (by have:=bM.out;have:=tC.out.size;omega));obtain ⟨q7,Gi⟩:∃q7,q6+k7.ct=q7:=⟨_,rfl⟩
   rw [Gi];have vX:=hide Gi;have abk:¬(q7:Int) < 0:=by omega
   have hv8:q7+0<=4294967296:=by have:=dm.out;have:=gN.out;have:=ig.out;have:=lu.out;have:=vX.out;omega
   clear G6 Gi Md Y3;have Y4:w6.cell? ⟨b,o+i * 9+8,none⟩=some (.slice a8 n8 c8):=C6.out 8 _ rfl;have Me:Hid (Calls Tryz.prog 37 #[.slice a8 n8 c8,.int .i64 ((q7:Int))] w6 λe w'=>e=.returned (.int .i64 ((q7+k8.ct:Nat):Int))∧Below w6.heap.size w6 w'):=by
    have e:((q7:Nat):Int)=(q7:Int):=by omega
    unfold Hid;rw [<- e];have hsj:=Ho.out;have eN:q+1+k1.ct+1+1+1+k5.ct+k6.ct+k7.ct=q7:=by have:=gN.out;have:=ig.out;have:=lu.out;have:=vX.out;omega
    rw [eN] at hsj;exact gB k8 n8 nb a8 c8 (q7) w6 (by have:=HM.out;have:=fZ.out;omega) xS (by have:=bM.out;have:=Dk.out.size;omega) (by have:=dm.out;have:=gN.out;have:=ig.out;have:=lu.out;have:=vX.out;omega) (by have:=dm.out;have:=gN.out;have:=ig.out;have:=lu.out;have:=vX.out;omega) (Fo.Sub.below Dk.out (λc hc=>by have:=bM.out;omega) hsj)
   go_wp2_with fail;refine Me.out.mono ?_;rintro e w7 ⟨rfl,G7⟩;have Ru:=hide (Dk.out.trans (G7.mono Dk.out.size));have C7:=hide (C6.out.below G7 (by have:=bM.out;have:=Dk.out.size;omega));obtain ⟨q8,hq8⟩:∃q8,q7+k8.ct=q8:=⟨_,rfl⟩
   rw [hq8];have Gj:=hide hq8;have abl:¬(q8:Int) < 0:=by omega
   have hv9:q8+0<=4294967296:=by have:=dm.out;have:=gN.out;have:=ig.out;have:=lu.out;have:=vX.out;have:=Gj.out;omega
   clear G7 hq8 Me Y4;go_wp2_with fail;go_roundw
   case rel=>
    have eN:q+((k1.ct+((((k5.ct+(k6.ct+(k7.ct+(k8.ct+(0)))))+1)+1)+1))+1)=q8:=by have:=gN.out;have:=ig.out;have:=lu.out;have:=vX.out;have:=Gj.out;omega
    have hr:=HR1.out;rw [eN] at hr;exact ⟨i+1,q8,rr,rfl,by go_num,by omega,⟨by have:=dm.out;have:=gN.out;have:=ig.out;have:=lu.out;have:=vX.out;have:=Gj.out;omega,by have:=Hu.out;have:=gN.out;have:=ig.out;have:=lu.out;have:=vX.out;have:=Gj.out;omega⟩,(by show _<=_;have:=fZ.out;omega),hr.below Ru.out (by have:=bM.out;omega),hB.out.trans (Ru.out.mono bM.out)⟩
   case measure=>simp [intOf];omega
  .obtain ⟨rfl,rfl⟩:=hR.out.done hi
   exact zz53
theorem Af (m:Nat) (lh:xX Tryz.prog E 36 (E 3) m) (gB:xX Tryz.prog E 37 (E 2) m):xX Tryz.prog E 36 (E 3) (m+1):=by
 intro F n nb a cap k W hm hf hn hk0 hk hs;have hmx:n<=9223372036854775807:=by have h2:=hs.1;have h3:=hs.2.1;simp only [maxLen] at h3;omega
 have HR:=hide (ru.start hf hs);have HM:=hide hm;have HK:=hide hk;clear hf hs hm hk;go_enter Tryz.func36,Tryz.ntmps36;go_wp2_with fail
 go_loopw [1,5] (λs1 s5 wr=>∃(i q:Nat) (r:Fo),s1=.int .i64 (q:Int)∧s5=.int .i64 i∧i<=n∧Hid (0 < q∧q+r.ct=k+F.ct)∧Hid (r.size<=F.size)∧Hid (ru E (E 3) n nb a i q r wr)∧Hid (Below W.heap.size W wr)) (λ_ s5 _=>n - (intOf s5).toNat)
 case atStart=>exact ⟨0,k,F,rfl,rfl,Nat.zero_le _,⟨hk0,rfl⟩,Nat.le_refl _,HR,Below.refl _ _⟩
 case round=>
  obtain ⟨i,q,r,rfl,rfl,hin,hq,hrs,hR,hB⟩:=hrel
  by_cases hi:i < n
  .obtain ⟨x,rr,b,o,rfl,hx,rfl,hb,hc,hxs,dx⟩:=hR.out.next hi (by decide)
   have hii:(i:Int) < n:=by omega
   have hct:=hq.out;have hsz:=hrs.out;have hbz:=hB.out.size;clear hR hq hrs;replace hx:Fit E x [.i,.t,.b,.s 0,.s 1,.s 3,.s 2]:=hx;obtain ⟨x0,F0,rfl,hx0,hx⟩:=eu hx;obtain ⟨x1,F1,rfl,hx1,hx⟩:=aU hx;obtain ⟨x2,F2,rfl,hx⟩:=dE hx;obtain ⟨a3,n3,c3,k3,F3,rfl,hf3,hx⟩:=ay hx;obtain ⟨a4,n4,c4,k4,F4,rfl,sQ,hx⟩:=ay hx;obtain ⟨a5,n5,c5,k5,F5,rfl,jg,hx⟩:=ay hx;obtain ⟨a6,n6,c6,k6,F6,rfl,jB,hx⟩:=ay hx;obtain rfl:=ai hx;simp only [Fo.aW,Fo.ct] at hct;simp only [Fo.aM,Fo.size] at hsz;simp only [Fo.ct] at dx;have hqk:0 < q∧q+(1+1+1+k3.ct+k4.ct+k5.ct+k6.ct)<=4294967296:=by have:=HK.out;omega
   have dm:=hide hqk;have hv0:q+3<=4294967296:=by omega
   have Hu:=hide hct;have fZ:=hide hsz;have bM:=hide hbz;have HR1:=hide dx;have C0:=hide hc;obtain ⟨hs3,hs4,hs5,hs6,-⟩:=hxs;have uB:=hide hs3;have CQ:=hide hs4;have oC:=hide hs5;have oD:=hide hs6;clear hs3 hs4 hs5 hs6;clear hc hct hsz hqk hbz dx;have rR:=hide (Below.refl wr.heap.size wr);have tO:wr.cell? ⟨b,o+i * 7,none⟩=some (.int .i64 ((q:Int))):=by
    have h1:wr.cell? ⟨b,o+i * 7,none⟩=some (.int .i64 ((q:Nat):Int)):=C0.out 0 _ rfl
    skip
    refine h1.trans ?_
    skip
    exact zz47
   have Tv:wr.cell? ⟨b,o+i * 7+1,none⟩=some (.string (mt (q+1))):=by
    have h1:wr.cell? ⟨b,o+i * 7+1,none⟩=some (.string (mt (q+1))):=C0.out 1 _ rfl
    skip
    refine h1.trans ?_
    skip
    exact zz47
   have hd1:Hid (Below wr.heap.size wr wr.drew):=(Below.refl _ _).drew;have om:Hid (Calls Tryz.prog 59 #[.int .i64 ((q:Int)+1)] wr.drew λe w'=>e=.returned (.string (mt (q+1)))∧Below wr.drew.heap.size wr.drew w'):=by
    have e:((q+1:Nat):Int)=(q:Int)+1:=by omega
    unfold Hid;rw [<- e];exact jX (q+1) wr.drew (by have:=dm.out;omega) (by have:=dm.out;omega)
   have EY:Hid (∀V,Below wr.heap.size wr V->V.cell? ⟨b,o+i * 7+1,none⟩=some (.string (mt (q+1)))):=λV bV=>(bV.cell (p:=⟨b,o+i * 7+1,none⟩) (by have:=bM.out;have:=rR.out.size;show b < _;omega)).trans Tv
   have eD:=EY.out wr.drew hd1.out;go_wp2_with fail
   go_region_held3 (λV=>V.cell? ⟨b,o+i * 7+1,none⟩=some (.string (mt (q+1))))
    (first | with_reducible exact dK | with_reducible exact eD)
    (first | (go_at_call 59;refine om.out.mono ?_;rintro e w1 ⟨rfl,f1⟩;have G1:=hd1.out.trans (show Below wr.heap.size wr.drew w1 from f1);have dK:=EY.out w1 G1))
   have gz:=hide (rR.out.trans (G1.mono rR.out.size));have C1:=hide (C0.out.below G1 (by have:=bM.out;have:=rR.out.size;omega));clear G1 f1 dK eD Tv EY om hd1;obtain ⟨g2,hg2⟩:∃g,decide ((q+2) % 3=0)=g:=⟨_,rfl⟩
   have HT2:((((q:Int)+1+1):Int).tmod 3==0)=g2:=by
    exact zz135
   have HU2:((((q:Int)+1+1):Int) % 3==0)=g2:=by rw [<- HT2,Int.tmod_eq_emod_of_nonneg (by omega)]
   have Y5:=hide hg2;clear hg2;have abm:w1.cell? ⟨b,o+i * 7+2,none⟩=some (.bool g2):=by
    have h1:w1.cell? ⟨b,o+i * 7+2,none⟩=some (.bool (decide ((q+1+1) % 3=0))):=C1.out 2 _ rfl
    skip
    have eR:q+1+1=q+2:=by  omega
    rw [eR,Y5.out] at h1;exact h1
   have Y6:w1.cell? ⟨b,o+i * 7+3,none⟩=some (.slice a3 n3 c3):=C1.out 3 _ rfl;have yB:Hid (Calls Tryz.prog 60 #[.slice a3 n3 c3,.int .i64 ((q:Int)+1+1+1)] w1 λe w'=>e=.returned (.int .i64 ((q+3+k3.ct:Nat):Int))∧Below w1.heap.size w1 w'):=by
    have e:((q+3:Nat):Int)=(q:Int)+1+1+1:=by omega
    unfold Hid;rw [<- e];have hsj:=uB.out;have eN:q+1+1+1=q+3:=by  omega
    rw [eN] at hsj;exact o9 m k3 n3 nb a3 c3 (q+3) w1 (by have:=HM.out;have:=fZ.out;omega) hf3 (by have:=bM.out;have:=gz.out.size;omega) (by have:=dm.out;omega) (by have:=dm.out;omega) (Fo.Sub.below gz.out (λc hc=>by have:=bM.out;omega) hsj)
   go_wp2_with fail;refine yB.out.mono ?_;rintro e w2 ⟨rfl,G2⟩;have HG2:=hide (gz.out.trans (G2.mono gz.out.size));have C2:=hide (C1.out.below G2 (by have:=bM.out;have:=gz.out.size;omega));obtain ⟨q3,hq3⟩:∃q3,q+3+k3.ct=q3:=⟨_,rfl⟩
   rw [hq3];have jh:=hide hq3;have Y7:¬(q3:Int) < 0:=by omega
   have hv4:q3+0<=4294967296:=by have:=dm.out;have:=jh.out;omega
   clear G2 hq3 yB Y6;have Y8:w2.cell? ⟨b,o+i * 7+4,none⟩=some (.slice a4 n4 c4):=C2.out 4 _ rfl;have Mf:Hid (Calls Tryz.prog 35 #[.slice a4 n4 c4,.int .i64 ((q3:Int))] w2 λe w'=>e=.returned (.int .i64 ((q3+k4.ct:Nat):Int))∧Below w2.heap.size w2 w'):=by
    have e:((q3:Nat):Int)=(q3:Int):=by omega
    unfold Hid;rw [<- e];have hsj:=CQ.out;have eN:q+1+1+1+k3.ct=q3:=by have:=jh.out;omega
    rw [eN] at hsj;exact lW m k4 n4 nb a4 c4 (q3) w2 (by have:=HM.out;have:=fZ.out;omega) sQ (by have:=bM.out;have:=HG2.out.size;omega) (by have:=dm.out;have:=jh.out;omega) (by have:=dm.out;have:=jh.out;omega) (Fo.Sub.below HG2.out (λc hc=>by have:=bM.out;omega) hsj)
   go_wp2_with fail;refine Mf.out.mono ?_;rintro e w3 ⟨rfl,G3⟩;have lK:=hide (HG2.out.trans (G3.mono HG2.out.size));have C3:=hide (C2.out.below G3 (by have:=bM.out;have:=HG2.out.size;omega));obtain ⟨q4,hq4⟩:∃q4,q3+k4.ct=q4:=⟨_,rfl⟩
   rw [hq4];have mX:=hide hq4;have Y9:¬(q4:Int) < 0:=by omega
   have hv5:q4+0<=4294967296:=by have:=dm.out;have:=jh.out;have:=mX.out;omega
   clear G3 hq4 Mf Y8;have Og:w3.cell? ⟨b,o+i * 7+5,none⟩=some (.slice a5 n5 c5):=C3.out 5 _ rfl;have yC:Hid (Calls Tryz.prog 36 #[.slice a5 n5 c5,.int .i64 ((q4:Int))] w3 λe w'=>e=.returned (.int .i64 ((q4+k5.ct:Nat):Int))∧Below w3.heap.size w3 w'):=by
    have e:((q4:Nat):Int)=(q4:Int):=by omega
    unfold Hid;rw [<- e];have hsj:=oC.out;have eN:q+1+1+1+k3.ct+k4.ct=q4:=by have:=jh.out;have:=mX.out;omega
    rw [eN] at hsj;exact lh k5 n5 nb a5 c5 (q4) w3 (by have:=HM.out;have:=fZ.out;omega) jg (by have:=bM.out;have:=lK.out.size;omega) (by have:=dm.out;have:=jh.out;have:=mX.out;omega) (by have:=dm.out;have:=jh.out;have:=mX.out;omega) (Fo.Sub.below lK.out (λc hc=>by have:=bM.out;omega) hsj)
   go_wp2_with fail;refine yC.out.mono ?_;rintro e w4 ⟨rfl,G4⟩;have qh:=hide (lK.out.trans (G4.mono lK.out.size));have C4:=hide (C3.out.below G4 (by have:=bM.out;have:=lK.out.size;omega));obtain ⟨q5,tZ⟩:∃q5,q4+k5.ct=q5:=⟨_,rfl⟩
   rw [tZ];have ig:=hide tZ;have Y1:¬(q5:Int) < 0:=by omega
   have hv6:q5+0<=4294967296:=by have:=dm.out;have:=jh.out;have:=mX.out;have:=ig.out;omega
   clear G4 tZ yC Og;have Oh:w4.cell? ⟨b,o+i * 7+6,none⟩=some (.slice a6 n6 c6):=C4.out 6 _ rfl;have yD:Hid (Calls Tryz.prog 37 #[.slice a6 n6 c6,.int .i64 ((q5:Int))] w4 λe w'=>e=.returned (.int .i64 ((q5+k6.ct:Nat):Int))∧Below w4.heap.size w4 w'):=by
    have e:((q5:Nat):Int)=(q5:Int):=by omega
    unfold Hid;rw [<- e];have hsj:=oD.out;have eN:q+1+1+1+k3.ct+k4.ct+k5.ct=q5:=by have:=jh.out;have:=mX.out;have:=ig.out;omega
    rw [eN] at hsj;exact gB k6 n6 nb a6 c6 (q5) w4 (by have:=HM.out;have:=fZ.out;omega) jB (by have:=bM.out;have:=qh.out.size;omega) (by have:=dm.out;have:=jh.out;have:=mX.out;have:=ig.out;omega) (by have:=dm.out;have:=jh.out;have:=mX.out;have:=ig.out;omega) (Fo.Sub.below qh.out (λc hc=>by have:=bM.out;omega) hsj)
   go_wp2_with fail;refine yD.out.mono ?_;rintro e w5 ⟨rfl,G5⟩;have tC:=hide (qh.out.trans (G5.mono qh.out.size));have C5:=hide (C4.out.below G5 (by have:=bM.out;have:=qh.out.size;omega));obtain ⟨q6,uf⟩:∃q6,q5+k6.ct=q6:=⟨_,rfl⟩
   rw [uf];have lu:=hide uf;have Y2:¬(q6:Int) < 0:=by omega
   have hv7:q6+0<=4294967296:=by have:=dm.out;have:=jh.out;have:=mX.out;have:=ig.out;have:=lu.out;omega
   clear G5 uf yD Oh;go_wp2_with fail;go_roundw
   case rel=>
    have eN:q+((((k3.ct+(k4.ct+(k5.ct+(k6.ct+(0)))))+1)+1)+1)=q6:=by have:=jh.out;have:=mX.out;have:=ig.out;have:=lu.out;omega
    have hr:=HR1.out;rw [eN] at hr;exact ⟨i+1,q6,rr,rfl,by go_num,by omega,⟨by have:=dm.out;have:=jh.out;have:=mX.out;have:=ig.out;have:=lu.out;omega,by have:=Hu.out;have:=jh.out;have:=mX.out;have:=ig.out;have:=lu.out;omega⟩,(by show _<=_;have:=fZ.out;omega),hr.below tC.out (by have:=bM.out;omega),hB.out.trans (tC.out.mono bM.out)⟩
   case measure=>simp [intOf];omega
  .obtain ⟨rfl,rfl⟩:=hR.out.done hi
   exact zz53
theorem fP:∀m:Nat,xX Tryz.prog E 37 (E 2) m∧xX Tryz.prog E 36 (E 3) m
 | 0=>⟨λ_ _ _ _ _ _ _ hm=>absurd hm (Nat.not_lt_zero _),λ_ _ _ _ _ _ _ hm=>absurd hm (Nat.not_lt_zero _)⟩
 | m+1=>⟨vI m (fP m).2 (fP m).1,Af m (fP m).2 (fP m).1⟩
theorem Ag (m:Nat):xX Tryz.prog E 37 (E 2) m:=(fP m).1
theorem EZ (m:Nat):xX Tryz.prog E 36 (E 3) m:=(fP m).2
theorem H6 (m:Nat):Xr Tryz.prog E 10 (E 3) m:=by
 intro F nb k W hm hf hn hk0 hk hs;replace hf:Fit E F [.i,.t,.b,.s 0,.s 1,.s 3,.s 2]:=hf;obtain ⟨x0,F0,rfl,hx0,hf⟩:=eu hf;obtain ⟨x1,F1,rfl,hx1,hf⟩:=aU hf;obtain ⟨x2,F2,rfl,hf⟩:=dE hf;obtain ⟨a3,n3,c3,k3,F3,rfl,hf3,hf⟩:=ay hf;obtain ⟨a4,n4,c4,k4,F4,rfl,sQ,hf⟩:=ay hf;obtain ⟨a5,n5,c5,k5,F5,rfl,jg,hf⟩:=ay hf;obtain ⟨a6,n6,c6,k6,F6,rfl,jB,hf⟩:=ay hf;obtain rfl:=ai hf;simp only [Fo.size] at hm;simp only [Fo.bZ] at hk ⊢;simp only [Fo.vals];have HK:=hide hk;clear hk;obtain ⟨hs3,hs4,hs5,hs6,-⟩:=hs;have uB:=hide hs3;have CQ:=hide hs4;have oC:=hide hs5;have oD:=hide hs6;clear hs3 hs4 hs5 hs6;have HB0:=hide (below_alloc1 W (.cells #[.int .i64 x0,.string x1,.bool x2,.slice a3 n3 c3,.slice a4 n4 c4,.slice a5 n5 c5,.slice a6 n6 c6] 35));have Q0:=hide (Bx.new W [.int .i64 x0,.string x1,.bool x2,.slice a3 n3 c3,.slice a4 n4 c4,.slice a5 n5 c5,.slice a6 n6 c6] 35)
 obtain ⟨w0,hw0⟩:∃V,W.alloc (.cells #[.int .i64 x0,.string x1,.bool x2,.slice a3 n3 c3,.slice a4 n4 c4,.slice a5 n5 c5,.slice a6 n6 c6] 35)=V:=⟨_,rfl⟩
 rw [hw0] at Q0 HB0;have Gn:=hide hw0;clear hw0;go_enter Tryz.func10,Tryz.ntmps10;go_wp2_with fail;rw [Gn.out];have eN1:k=k:=by  omega
 have Rv:=uB.out;have fQ:=Kn (Fo.size (.v (.bool x2) (.s a3 n3 c3 k3 .nil))+1) (.v (.bool x2) (.s a3 n3 c3 k3 .nil)) nb k w0 (Nat.lt_succ_self _) ⟨hf3,trivial⟩ (by have:=HB0.out.size;omega) (by  omega) (by have:=HK.out;simp only [Fo.bZ];omega) ⟨Fo.Sub.below HB0.out (λc hc=>by omega) Rv,trivial⟩;simp only [Fo.vals,Fo.bZ] at fQ;refine fQ.mono ?_;clear fQ;rintro e w1 ⟨rfl,b1⟩;have HB1:=hide (HB0.out.trans (b1.mono HB0.out.size));have Q1:=hide (Q0.out.below b1);obtain ⟨q1,hq1⟩:∃q1,k+(k3.ct+0)=q1:=⟨_,rfl⟩
 rw [hq1];have dZ:=hide hq1;have Tf:¬(q1:Int) < 0:=by omega
 clear b1 hq1;have Gq:w1.cell? ⟨W.heap.size,4,none⟩=some (.slice a4 n4 c4):=Q1.out.ae 4 _ rfl;have Gs:w1.cell? ⟨W.heap.size,5,none⟩=some (.slice a5 n5 c5):=Q1.out.ae 5 _ rfl;have Gt:w1.cell? ⟨W.heap.size,6,none⟩=some (.slice a6 n6 c6):=Q1.out.ae 6 _ rfl;go_wp2_with fail;have Tx:=CQ.out;have eN2:k+k3.ct=q1:=by have:=dZ.out;omega
 rw [eN2] at Tx;have iJ:=lW (k4.size+1) k4 n4 nb a4 c4 q1 w1 (Nat.lt_succ_self _) sQ (by have:=HB1.out.size;omega) (by have:=dZ.out;omega) (by have:=HK.out;have:=dZ.out;omega) (Fo.Sub.below HB1.out (λc hc=>by omega) Tx);refine iJ.mono ?_;clear iJ;rintro e w2 ⟨rfl,b2⟩;have HB2:=hide (HB1.out.trans (b2.mono HB1.out.size));have Q2:=hide (Q1.out.below b2);obtain ⟨q2,hq2⟩:∃q2,q1+k4.ct=q2:=⟨_,rfl⟩
 rw [hq2];have jE:=hide hq2;have abn:¬(q2:Int) < 0:=by omega
 clear b2 hq2;have y25:w2.cell? ⟨W.heap.size,5,none⟩=some (.slice a5 n5 c5):=Q2.out.ae 5 _ rfl;have Qt:w2.cell? ⟨W.heap.size,6,none⟩=some (.slice a6 n6 c6):=Q2.out.ae 6 _ rfl;go_wp2_with fail;have Ty:=oC.out;have eN3:k+k3.ct+k4.ct=q2:=by have:=dZ.out;have:=jE.out;omega
 rw [eN3] at Ty;have mK:=EZ (k5.size+1) k5 n5 nb a5 c5 q2 w2 (Nat.lt_succ_self _) jg (by have:=HB2.out.size;omega) (by have:=dZ.out;have:=jE.out;omega) (by have:=HK.out;have:=dZ.out;have:=jE.out;omega) (Fo.Sub.below HB2.out (λc hc=>by omega) Ty);refine mK.mono ?_;clear mK;rintro e w3 ⟨rfl,b3⟩;have HB3:=hide (HB2.out.trans (b3.mono HB2.out.size));have Q3:=hide (Q2.out.below b3);obtain ⟨q3,hq3⟩:∃q3,q2+k5.ct=q3:=⟨_,rfl⟩
 rw [hq3];have ou:=hide hq3;have Y7:¬(q3:Int) < 0:=by omega
 clear b3 hq3;have Qu:w3.cell? ⟨W.heap.size,6,none⟩=some (.slice a6 n6 c6):=Q3.out.ae 6 _ rfl;go_wp2_with fail;have Tz:=oD.out;have eN4:k+k3.ct+k4.ct+k5.ct=q3:=by have:=dZ.out;have:=jE.out;have:=ou.out;omega
 rw [eN4] at Tz;have uU:=Ag (k6.size+1) k6 n6 nb a6 c6 q3 w3 (Nat.lt_succ_self _) jB (by have:=HB3.out.size;omega) (by have:=dZ.out;have:=jE.out;have:=ou.out;omega) (by have:=HK.out;have:=dZ.out;have:=jE.out;have:=ou.out;omega) (Fo.Sub.below HB3.out (λc hc=>by omega) Tz);refine uU.mono ?_;clear uU;rintro e w4 ⟨rfl,b4⟩;have sV:=hide (HB3.out.trans (b4.mono HB3.out.size));have Q4:=hide (Q3.out.below b4);obtain ⟨q4,hq4⟩:∃q4,q3+k6.ct=q4:=⟨_,rfl⟩
 rw [hq4];have Gu:=hide hq4;have Y9:¬(q4:Int) < 0:=by omega
 clear b4 hq4;go_wp2_with fail;go_ret;exact ⟨gH (by have:=dZ.out;have:=jE.out;have:=ou.out;have:=Gu.out;omega),sV.out⟩
end Go.Proofs.YthfnobboalhihaaGreat
