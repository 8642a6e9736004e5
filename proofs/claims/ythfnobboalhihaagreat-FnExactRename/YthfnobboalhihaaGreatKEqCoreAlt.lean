import Derived.Test.YthfnobboalhihaaGreatUt
import Derived.Deep.RegionHeld3
set_option maxHeartbeats 2000000
set_option maxRecDepth 100000
namespace Go.Proofs.YthfnobboalhihaaGreat
open Go.RowKit Go.Joins
theorem zz43 {P:Prop} (h:P:=by
 rw [Nat.mul_one] at p0 p1;have HZ1:=hide HZ;have bM:=hide hbz;have hd0:Hid (Below wr.heap.size wr wr.drew):=(Below.refl _ wr).drew;clear hc hc' hxs hys HZ hbz hxy mY;go_wp2_with fail
 go_region
 all_goals
  go_wp2_with fail;go_roundw
  case rel=>exact ⟨i+1,rr,qq,by go_num,by omega,(by show _<=_;have:=HZ1.out;omega),HQ,HR1.out.below hd0.out (by have:=bM.out;omega),y8.out.below hd0.out (by have:=bM.out;omega),hB.out.trans (hd0.out.mono bM.out)⟩
  case measure=>simp [intOf];omega):P:=h
theorem zz123 {P:Prop} (h:P:=by
 clear hR hR' hrs hrq;go_wp2_with fail;go_ret;exact ⟨rfl,hB.out⟩):P:=h
theorem Fo.aG.split:∀{x y r q:Fo},x.len=y.len->(y.app q).aG (x.app r)->y.aG x∧q.aG r
 | .nil,.nil,_,_,_,h=>⟨trivial,h⟩
 | .v _ x,.v _ y,r,q,e,⟨h1,h2⟩=>by
  obtain ⟨h3,h4⟩:=Fo.aG.split (x:=x) (y:=y) (by simpa [Fo.len] using e) h2;exact ⟨⟨h1,h3⟩,h4⟩
 | .s _ _ _ _ x,.s _ _ _ _ y,r,q,e,⟨h1,h0,h2⟩=>by
  obtain ⟨h3,h4⟩:=Fo.aG.split (x:=x) (y:=y) (by simpa [Fo.len] using e) h2;exact ⟨⟨h1,h0,h3⟩,h4⟩
 | .nil,.v _ _,_,_,e,_=>by simp [Fo.len] at e
 | .nil,.s _ _ _ _ _,_,_,e,_=>by simp [Fo.len] at e
 | .v _ _,.nil,_,_,e,_=>by simp [Fo.len] at e
 | .s _ _ _ _ _,.nil,_,_,e,_=>by simp [Fo.len] at e
 | .v _ _,.s _ _ _ _ _,_,_,_,h=>h.elim
 | .s _ _ _ _ _,.v _ _,_,_,_,h=>h.elim
theorem tQ (m:Nat):En Tryz.prog E 27 (E 1) m:=by
 intro F G n nb W a b cap KE hm hf hn jc hs ht;have hmx:n<=9223372036854775807:=by have h2:=hs.1;have h3:=hs.2.1;simp only [maxLen] at h3;omega
 have HR:=hide (Rd.start hf hs);have Hq:=hide (Rd.start (jc.fit hf) ht);have HM:=hide hm;have Hr:=hide jc;clear hf hs hm ht jc;go_enter Tryz.func27,Tryz.ntmps27;go_wp2_with fail
 go_loopw [5] (λs5 wr=>∃(i:Nat) (r q:Fo),s5=.int .i64 i∧i<=n∧Hid (r.size<=F.size)∧Hid (q.aG r)∧Hid (Rd E (E 1) n nb a i r wr)∧Hid (Rd E (E 1) n nb b i q wr)∧Hid (Below W.heap.size W wr)) (λs5 _=>n - (intOf s5).toNat)
 case atStart=>exact ⟨0,F,G,rfl,Nat.zero_le _,Nat.le_refl _,Hr,HR,Hq,Below.refl _ _⟩
 case round=>
  obtain ⟨i,r,q,rfl,hin,hrs,hrq,hR,hR',hB⟩:=hrel
  by_cases hi:i < n
  .obtain ⟨x,rr,g,o,rfl,hx,rfl,hg,hc,hxs,dx⟩:=hR.out.next hi (by decide)
   obtain ⟨y,qq,g',o',rfl,hy,rfl,hg',hc',hys,rO⟩:=hR'.out.next hi (by decide)
   have HR1:=hide dx;have y8:=hide rO;obtain ⟨hxy,y9⟩:=Fo.aG.split (x:=x) (y:=y) (by rw [Fit.len hx,Fit.len hy]) hrq.out;have HQ:=hide y9;have HZ:=hrs.out;rw [Fo.aM] at HZ;have hbz:=hB.out.size;have hii:(i:Int) < n:=by omega
   clear hR hR' dx rO hrs hrq y9 hy;replace hx:Fit E x [.t]:=hx;obtain ⟨x0,F0,rfl,hx0,hx⟩:=aU hx;obtain rfl:=ai hx;obtain ⟨u0,rfl,mY⟩:=Fo.aP hxy;obtain rfl:=Fo.cB mY;have p0:wr.cell? ⟨g,o+i * 1,none⟩=some (.string x0):=hc 0 _ rfl;have p1:wr.cell? ⟨g',o'+i * 1,none⟩=some (.string x0):=hc' 0 _ rfl;exact zz43
  .obtain ⟨-,rfl⟩:=hR.out.done hi
   exact zz123
theorem Bg (m:Nat):En Tryz.prog E 56 (E 0) m:=by
 intro F G n nb W a b cap KE hm hf hn jc hs ht;have hmx:n<=9223372036854775807:=by have h2:=hs.1;have h3:=hs.2.1;simp only [maxLen] at h3;omega
 have HR:=hide (Rd.start hf hs);have Hq:=hide (Rd.start (jc.fit hf) ht);have HM:=hide hm;have Hr:=hide jc;clear hf hs hm ht jc;go_enter Tryz.func56,Tryz.ntmps56;go_wp2_with fail
 go_loopw [5] (λs5 wr=>∃(i:Nat) (r q:Fo),s5=.int .i64 i∧i<=n∧Hid (r.size<=F.size)∧Hid (q.aG r)∧Hid (Rd E (E 0) n nb a i r wr)∧Hid (Rd E (E 0) n nb b i q wr)∧Hid (Below W.heap.size W wr)) (λs5 _=>n - (intOf s5).toNat)
 case atStart=>exact ⟨0,F,G,rfl,Nat.zero_le _,Nat.le_refl _,Hr,HR,Hq,Below.refl _ _⟩
 case round=>
  obtain ⟨i,r,q,rfl,hin,hrs,hrq,hR,hR',hB⟩:=hrel
  by_cases hi:i < n
  .obtain ⟨x,rr,g,o,rfl,hx,rfl,hg,hc,hxs,dx⟩:=hR.out.next hi (by decide)
   obtain ⟨y,qq,g',o',rfl,hy,rfl,hg',hc',hys,rO⟩:=hR'.out.next hi (by decide)
   have HR1:=hide dx;have y8:=hide rO;obtain ⟨hxy,y9⟩:=Fo.aG.split (x:=x) (y:=y) (by rw [Fit.len hx,Fit.len hy]) hrq.out;have HQ:=hide y9;have HZ:=hrs.out;rw [Fo.aM] at HZ;have hbz:=hB.out.size;have hii:(i:Int) < n:=by omega
   clear hR hR' dx rO hrs hrq y9 hy;replace hx:Fit E x [.u]:=hx;obtain ⟨x0,F0,rfl,hx0,hx⟩:=jy hx;obtain rfl:=ai hx;obtain ⟨u0,rfl,mY⟩:=Fo.aP hxy;obtain rfl:=Fo.cB mY;have p0:wr.cell? ⟨g,o+i * 1,none⟩=some (.int .u32 x0):=hc 0 _ rfl;have p1:wr.cell? ⟨g',o'+i * 1,none⟩=some (.int .u32 x0):=hc' 0 _ rfl;exact zz43
  .obtain ⟨-,rfl⟩:=hR.out.done hi
   exact zz123
theorem zz152 {P:Prop} (h:P:=by
 rw [<- bE];exact (Bx.new _ _ _).kept (Kept.alloc (λ_=>True) _ _) trivial):P:=h
theorem Km (m:Nat):yH Tryz.prog E 26 [.b,.s 0] m:=by
 intro F G nb W hm hf hn jc hs ht;obtain ⟨x0,F0,rfl,hf⟩:=dE hf;obtain ⟨a1,n1,c1,k1,F1,rfl,hf1,hf⟩:=ay hf;obtain rfl:=ai hf;obtain ⟨u0,rfl,mY⟩:=Fo.aP jc;obtain ⟨d1,e1,t1,u1,rfl,r1,qX⟩:=Fo.aI mY;obtain rfl:=Fo.cB qX;clear jc mY qX;obtain ⟨hs1,-⟩:=hs;obtain ⟨ht1,-⟩:=ht;simp only [Fo.size] at hm;simp only [Fo.vals];have nE:Hid (Fo.Sub W (λc=>c < nb) a1 n1 c1 k1):=hs1;have HT1:Hid (Fo.Sub W (λc=>c < nb) d1 n1 e1 t1):=ht1;clear hs1 ht1;obtain ⟨w0,bE⟩:∃V0,(W.alloc (.cells #[.bool x0,.slice a1 n1 c1] 31)).alloc (.cells #[.bool x0,.slice d1 n1 e1] 31)=V0:=⟨_,rfl⟩
 have HB0:Hid (Below W.heap.size W w0):=by rw [<- bE];exact below_alloc2 _ _ _
 have Q0:Hid (Bx w0 W.heap.size [.bool x0,.slice a1 n1 c1]):=by
  exact zz152
 have R0:Hid (Bx w0 (W.heap.size+1) [.bool x0,.slice d1 n1 e1]):=by
  rw [<- bE]
  have:=Bx.new (W.alloc (.cells #[.bool x0,.slice a1 n1 c1] 31)) [.bool x0,.slice d1 n1 e1] 31
  rwa [World.size_alloc] at this
 have gP:=hide bE;clear bE;go_enter Tryz.func26,Tryz.ntmps26;go_wp2_with fail;rw [gP.out];clear gP;have fQ:=Bg m k1 t1 n1 nb w0 a1 d1 c1 e1 (by omega) hf1 (by have:=HB0.out.size;omega) r1 (nE.out.below HB0.out (λc hc=>by omega)) (HT1.out.below HB0.out (λc hc=>by omega));refine fQ.mono ?_;clear fQ;rintro e w1 ⟨rfl,b1⟩;have HB1:=hide (HB0.out.trans (b1.mono HB0.out.size));have Q1:=hide (Q0.out.below b1);have R1:=hide (R0.out.below b1);clear b1;go_wp2_with fail;go_ret;exact ⟨rfl,HB1.out⟩
theorem zz80 {P:Prop} (h:P:=by
 go_wp2_with fail;go_roundw
 case rel=>exact ⟨i+1,rr,qq,by go_num,by omega,(by show _<=_;have:=HZ1.out;omega),HQ,HR1.out.below HB1.out (by have:=bM.out;omega),y8.out.below HB1.out (by have:=bM.out;omega),hB.out.trans (HB1.out.mono bM.out)⟩
 case measure=>simp [intOf];omega):P:=h
theorem Br (m:Nat) (vz:yH Tryz.prog E 8 (E 3) m):yH Tryz.prog E 57 (E 2) m:=by
 intro F G nb W hm hf hn jc hs ht;replace hf:Fit E F [.t,.s 1,.i,.t,.b,.s 0,.s 1,.s 3,.s 2]:=hf;obtain ⟨x0,F0,rfl,hx0,hf⟩:=aU hf;obtain ⟨a1,n1,c1,k1,F1,rfl,hf1,hf⟩:=ay hf;obtain ⟨x2,F2,rfl,hx2,hf⟩:=eu hf;obtain ⟨x3,F3,rfl,hx3,hf⟩:=aU hf;obtain ⟨x4,F4,rfl,hf⟩:=dE hf;obtain ⟨a5,n5,c5,k5,F5,rfl,jg,hf⟩:=ay hf;obtain ⟨a6,n6,c6,k6,F6,rfl,jB,hf⟩:=ay hf;obtain ⟨a7,n7,c7,k7,F7,rfl,xR,hf⟩:=ay hf;obtain ⟨a8,n8,c8,k8,F8,rfl,xS,hf⟩:=ay hf;obtain rfl:=ai hf;obtain ⟨u0,rfl,mY⟩:=Fo.aP jc;obtain ⟨d1,e1,t1,u1,rfl,r1,qX⟩:=Fo.aI mY;obtain ⟨u2,rfl,uu⟩:=Fo.aP qX;obtain ⟨u3,rfl,uw⟩:=Fo.aP uu;obtain ⟨u4,rfl,uy⟩:=Fo.aP uw;obtain ⟨d5,e5,t5,u5,rfl,r5,uz⟩:=Fo.aI uy;obtain ⟨d6,e6,t6,u6,rfl,r6,uA⟩:=Fo.aI uz;obtain ⟨d7,e7,t7,u7,rfl,r7,MX⟩:=Fo.aI uA;obtain ⟨d8,e8,t8,u8,rfl,r8,MZ⟩:=Fo.aI MX;obtain rfl:=Fo.cB MZ;clear jc mY qX uu uw uy uz uA MX MZ;obtain ⟨hs1,hs5,hs6,hs7,ug,-⟩:=hs;obtain ⟨ht1,M6,M7,XJ,GH,-⟩:=ht
 simp only [Fo.size] at hm;simp only [Fo.vals];have nE:Hid (Fo.Sub W (λc=>c < nb) a1 n1 c1 k1):=hs1;have HT1:Hid (Fo.Sub W (λc=>c < nb) d1 n1 e1 t1):=ht1;have oC:Hid (Fo.Sub W (λc=>c < nb) a5 n5 c5 k5):=hs5;have UT:Hid (Fo.Sub W (λc=>c < nb) d5 n5 e5 t5):=M6;have oD:Hid (Fo.Sub W (λc=>c < nb) a6 n6 c6 k6):=hs6;have KC:Hid (Fo.Sub W (λc=>c < nb) d6 n6 e6 t6):=M7;have CP:Hid (Fo.Sub W (λc=>c < nb) a7 n7 c7 k7):=hs7;have HT7:Hid (Fo.Sub W (λc=>c < nb) d7 n7 e7 t7):=XJ;have Ho:Hid (Fo.Sub W (λc=>c < nb) a8 n8 c8 k8):=ug;have KD:Hid (Fo.Sub W (λc=>c < nb) d8 n8 e8 t8):=GH;clear hs1 ht1 hs5 M6 hs6 M7 hs7 XJ ug GH
 obtain ⟨w0,bE⟩:∃V0,(W.alloc (.cells #[.string x0,.slice a1 n1 c1,.int .i64 x2,.string x3,.bool x4,.slice a5 n5 c5,.slice a6 n6 c6,.slice a7 n7 c7,.slice a8 n8 c8] 71)).alloc (.cells #[.string x0,.slice d1 n1 e1,.int .i64 x2,.string x3,.bool x4,.slice d5 n5 e5,.slice d6 n6 e6,.slice d7 n7 e7,.slice d8 n8 e8] 71)=V0:=⟨_,rfl⟩
 have HB0:Hid (Below W.heap.size W w0):=by rw [<- bE];exact below_alloc2 _ _ _
 have Q0:Hid (Bx w0 W.heap.size [.string x0,.slice a1 n1 c1,.int .i64 x2,.string x3,.bool x4,.slice a5 n5 c5,.slice a6 n6 c6,.slice a7 n7 c7,.slice a8 n8 c8]):=by
  exact zz152
 have R0:Hid (Bx w0 (W.heap.size+1) [.string x0,.slice d1 n1 e1,.int .i64 x2,.string x3,.bool x4,.slice d5 n5 e5,.slice d6 n6 e6,.slice d7 n7 e7,.slice d8 n8 e8]):=by
  rw [<- bE]
  have:=Bx.new (W.alloc (.cells #[.string x0,.slice a1 n1 c1,.int .i64 x2,.string x3,.bool x4,.slice a5 n5 c5,.slice a6 n6 c6,.slice a7 n7 c7,.slice a8 n8 c8] 71)) [.string x0,.slice d1 n1 e1,.int .i64 x2,.string x3,.bool x4,.slice d5 n5 e5,.slice d6 n6 e6,.slice d7 n7 e7,.slice d8 n8 e8] 71
  rwa [World.size_alloc] at this
 have gP:=hide bE;clear bE;go_enter Tryz.func57,Tryz.ntmps57;go_wp2_with fail;rw [gP.out];clear gP;have fQ:=tQ m k1 t1 n1 nb w0 a1 d1 c1 e1 (by omega) hf1 (by have:=HB0.out.size;omega) r1 (nE.out.below HB0.out (λc hc=>by omega)) (HT1.out.below HB0.out (λc hc=>by omega));refine fQ.mono ?_;clear fQ;rintro e w1 ⟨rfl,b1⟩;have HB1:=hide (HB0.out.trans (b1.mono HB0.out.size));have Q1:=hide (Q0.out.below b1);have R1:=hide (R0.out.below b1);clear b1;have XK:w1.cell? ⟨W.heap.size,2,none⟩=some (.int .i64 x2):=Q1.out.ae 2 _ rfl;have Y12:w1.cell? ⟨W.heap.size+1,2,none⟩=some (.int .i64 x2):=R1.out.ae 2 _ rfl;have y13:w1.cell? ⟨W.heap.size,3,none⟩=some (.string x3):=Q1.out.ae 3 _ rfl;have Y13:w1.cell? ⟨W.heap.size+1,3,none⟩=some (.string x3):=R1.out.ae 3 _ rfl;have Gq:w1.cell? ⟨W.heap.size,4,none⟩=some (.bool x4):=Q1.out.ae 4 _ rfl
 have UU:w1.cell? ⟨W.heap.size+1,4,none⟩=some (.bool x4):=R1.out.ae 4 _ rfl;have Gs:w1.cell? ⟨W.heap.size,5,none⟩=some (.slice a5 n5 c5):=Q1.out.ae 5 _ rfl;have UW:w1.cell? ⟨W.heap.size+1,5,none⟩=some (.slice d5 n5 e5):=R1.out.ae 5 _ rfl;have Gt:w1.cell? ⟨W.heap.size,6,none⟩=some (.slice a6 n6 c6):=Q1.out.ae 6 _ rfl;have UX:w1.cell? ⟨W.heap.size+1,6,none⟩=some (.slice d6 n6 e6):=R1.out.ae 6 _ rfl;have XL:w1.cell? ⟨W.heap.size,7,none⟩=some (.slice a7 n7 c7):=Q1.out.ae 7 _ rfl;have Y17:w1.cell? ⟨W.heap.size+1,7,none⟩=some (.slice d7 n7 e7):=R1.out.ae 7 _ rfl;have XM:w1.cell? ⟨W.heap.size,8,none⟩=some (.slice a8 n8 c8):=Q1.out.ae 8 _ rfl;have Y18:w1.cell? ⟨W.heap.size+1,8,none⟩=some (.slice d8 n8 e8):=R1.out.ae 8 _ rfl;go_wp2_with fail
 have iJ:=vz (.v (.int .i64 x2) (.v (.string x3) (.v (.bool x4) (.s a5 n5 c5 k5 (.s a6 n6 c6 k6 (.s a7 n7 c7 k7 (.s a8 n8 c8 k8 .nil))))))) (.v (.int .i64 x2) (.v (.string x3) (.v (.bool x4) (.s d5 n5 e5 t5 (.s d6 n6 e6 t6 (.s d7 n7 e7 t7 (.s d8 n8 e8 t8 .nil))))))) nb w1 (by simp only [Fo.size];omega) ⟨hx2,hx3,jg,jB,xR,xS,trivial⟩ (by have:=HB1.out.size;omega) ⟨rfl,rfl,rfl,rfl,r5,rfl,r6,rfl,r7,rfl,r8,trivial⟩ ⟨(oC.out.below HB1.out (λc hc=>by omega)),(oD.out.below HB1.out (λc hc=>by omega)),(CP.out.below HB1.out (λc hc=>by omega)),(Ho.out.below HB1.out (λc hc=>by omega)),trivial⟩ ⟨(UT.out.below HB1.out (λc hc=>by omega)),(KC.out.below HB1.out (λc hc=>by omega)),(HT7.out.below HB1.out (λc hc=>by omega)),(KD.out.below HB1.out (λc hc=>by omega)),trivial⟩;simp only [Fo.vals] at iJ;refine iJ.mono ?_;clear iJ;rintro e w2 ⟨rfl,b2⟩
 have HB2:=hide (HB1.out.trans (b2.mono HB1.out.size));have Q2:=hide (Q1.out.below b2);have R2:=hide (R1.out.below b2);clear b2;go_wp2_with fail;go_ret;exact ⟨rfl,HB2.out⟩
theorem oI (m:Nat) (h:yH Tryz.prog E 57 (E 2) m):En Tryz.prog E 29 (E 2) m:=by
 intro F G n nb W a b cap KE hm hf hn jc hs ht;have hmx:n<=9223372036854775807:=by have h2:=hs.1;have h3:=hs.2.1;simp only [maxLen] at h3;omega
 have HR:=hide (Rd.start hf hs);have Hq:=hide (Rd.start (jc.fit hf) ht);have HM:=hide hm;have Hr:=hide jc;clear hf hs hm ht jc;go_enter Tryz.func29,Tryz.ntmps29;go_wp2_with fail
 go_loopw [5] (λs5 wr=>∃(i:Nat) (r q:Fo),s5=.int .i64 i∧i<=n∧Hid (r.size<=F.size)∧Hid (q.aG r)∧Hid (Rd E (E 2) n nb a i r wr)∧Hid (Rd E (E 2) n nb b i q wr)∧Hid (Below W.heap.size W wr)) (λs5 _=>n - (intOf s5).toNat)
 case atStart=>exact ⟨0,F,G,rfl,Nat.zero_le _,Nat.le_refl _,Hr,HR,Hq,Below.refl _ _⟩
 case round=>
  obtain ⟨i,r,q,rfl,hin,hrs,hrq,hR,hR',hB⟩:=hrel
  by_cases hi:i < n
  .obtain ⟨x,rr,g,o,rfl,hx,rfl,hg,hc,hxs,dx⟩:=hR.out.next hi (by decide)
   obtain ⟨y,qq,g',o',rfl,hy,rfl,hg',hc',hys,rO⟩:=hR'.out.next hi (by decide)
   have HR1:=hide dx;have y8:=hide rO;obtain ⟨hxy,y9⟩:=Fo.aG.split (x:=x) (y:=y) (by rw [Fit.len hx,Fit.len hy]) hrq.out;have HQ:=hide y9;have HZ:=hrs.out;rw [Fo.aM] at HZ;have hbz:=hB.out.size;have hii:(i:Int) < n:=by omega
   clear hR hR' dx rO hrs hrq y9 hy;replace hx:Fit E x [.t,.s 1,.i,.t,.b,.s 0,.s 1,.s 3,.s 2]:=hx;have HC:Hid (∀V,Below wr.heap.size wr V->Calls Tryz.prog 57 #[.agg x.vals.toArray,.agg y.vals.toArray] V λe W'=>e=.returned (.bool true)∧Below V.heap.size V W'):=λV bV=>h x y nb V (by have:=HM.out;omega) hx (by have:=bV.size;omega) hxy (hxs.below bV (λc hc=>by omega)) (hys.below bV (λc hc=>by omega))
   have HZ1:=hide HZ;have bM:=hide hbz;clear HZ hbz hxs hys;obtain ⟨x0,F0,rfl,hx0,hx⟩:=aU hx;obtain ⟨a1,n1,c1,k1,F1,rfl,hf1,hx⟩:=ay hx;obtain ⟨x2,F2,rfl,hx2,hx⟩:=eu hx;obtain ⟨x3,F3,rfl,hx3,hx⟩:=aU hx;obtain ⟨x4,F4,rfl,hx⟩:=dE hx;obtain ⟨a5,n5,c5,k5,F5,rfl,jg,hx⟩:=ay hx;obtain ⟨a6,n6,c6,k6,F6,rfl,jB,hx⟩:=ay hx;obtain ⟨a7,n7,c7,k7,F7,rfl,xR,hx⟩:=ay hx;obtain ⟨a8,n8,c8,k8,F8,rfl,xS,hx⟩:=ay hx;obtain rfl:=ai hx;obtain ⟨u0,rfl,mY⟩:=Fo.aP hxy;obtain ⟨d1,e1,t1,u1,rfl,r1,qX⟩:=Fo.aI mY;obtain ⟨u2,rfl,uu⟩:=Fo.aP qX;obtain ⟨u3,rfl,uw⟩:=Fo.aP uu;obtain ⟨u4,rfl,uy⟩:=Fo.aP uw;obtain ⟨d5,e5,t5,u5,rfl,r5,uz⟩:=Fo.aI uy;obtain ⟨d6,e6,t6,u6,rfl,r6,uA⟩:=Fo.aI uz;obtain ⟨d7,e7,t7,u7,rfl,r7,MX⟩:=Fo.aI uA;obtain ⟨d8,e8,t8,u8,rfl,r8,MZ⟩:=Fo.aI MX;obtain rfl:=Fo.cB MZ;clear hxy mY qX uu uw uy uz uA MX MZ;simp only [Fo.vals] at HC hc hc'
   have HS:Hid (∀V,Below wr.heap.size wr V->V.cell? ⟨g,o+i * 9,none⟩=some (.string x0)∧V.cell? ⟨g,o+i * 9+1,none⟩=some (.slice a1 n1 c1)∧V.cell? ⟨g,o+i * 9+2,none⟩=some (.int .i64 x2)∧V.cell? ⟨g,o+i * 9+3,none⟩=some (.string x3)∧V.cell? ⟨g,o+i * 9+4,none⟩=some (.bool x4)∧V.cell? ⟨g,o+i * 9+5,none⟩=some (.slice a5 n5 c5)∧V.cell? ⟨g,o+i * 9+6,none⟩=some (.slice a6 n6 c6)∧V.cell? ⟨g,o+i * 9+7,none⟩=some (.slice a7 n7 c7)∧V.cell? ⟨g,o+i * 9+8,none⟩=some (.slice a8 n8 c8)∧V.cell? ⟨g',o'+i * 9,none⟩=some (.string x0)∧V.cell? ⟨g',o'+i * 9+1,none⟩=some (.slice d1 n1 e1)∧V.cell? ⟨g',o'+i * 9+2,none⟩=some (.int .i64 x2)∧V.cell? ⟨g',o'+i * 9+3,none⟩=some (.string x3)∧V.cell? ⟨g',o'+i * 9+4,none⟩=some (.bool x4)∧V.cell? ⟨g',o'+i * 9+5,none⟩=some (.slice d5 n5 e5)∧V.cell? ⟨g',o'+i * 9+6,none⟩=some (.slice d6 n6 e6)∧V.cell? ⟨g',o'+i * 9+7,none⟩=some (.slice d7 n7 e7)∧V.cell? ⟨g',o'+i * 9+8,none⟩=some (.slice d8 n8 e8)):=λV bV=>by
    have h1:=hc.below bV (by have:=bM.out;omega);have h2:=hc'.below bV (by have:=bM.out;omega);exact ⟨h1 0 _ rfl,h1 1 _ rfl,h1 2 _ rfl,h1 3 _ rfl,h1 4 _ rfl,h1 5 _ rfl,h1 6 _ rfl,h1 7 _ rfl,h1 8 _ rfl,h2 0 _ rfl,h2 1 _ rfl,h2 2 _ rfl,h2 3 _ rfl,h2 4 _ rfl,h2 5 _ rfl,h2 6 _ rfl,h2 7 _ rfl,h2 8 _ rfl⟩
   clear hc hc';have hd0:Hid (Below wr.heap.size wr wr.drew):=(Below.refl _ wr).drew;have eD:=HS.out wr.drew hd0.out;have M8:=HS.out wr (Below.refl _ _);have Eo:=hide (HC.out wr.drew hd0.out);obtain ⟨p0,p1,p2,p3,p4,p5,p6,p7,p8,p9,p10,p11,p12,p13,p14,p15,p16,p17⟩:=M8;clear HC;go_wp2_with fail
   go_region_held3 (λV=>V.cell? ⟨g,o+i * 9,none⟩=some (.string x0)∧V.cell? ⟨g,o+i * 9+1,none⟩=some (.slice a1 n1 c1)∧V.cell? ⟨g,o+i * 9+2,none⟩=some (.int .i64 x2)∧V.cell? ⟨g,o+i * 9+3,none⟩=some (.string x3)∧V.cell? ⟨g,o+i * 9+4,none⟩=some (.bool x4)∧V.cell? ⟨g,o+i * 9+5,none⟩=some (.slice a5 n5 c5)∧V.cell? ⟨g,o+i * 9+6,none⟩=some (.slice a6 n6 c6)∧V.cell? ⟨g,o+i * 9+7,none⟩=some (.slice a7 n7 c7)∧V.cell? ⟨g,o+i * 9+8,none⟩=some (.slice a8 n8 c8)∧V.cell? ⟨g',o'+i * 9,none⟩=some (.string x0)∧V.cell? ⟨g',o'+i * 9+1,none⟩=some (.slice d1 n1 e1)∧V.cell? ⟨g',o'+i * 9+2,none⟩=some (.int .i64 x2)∧V.cell? ⟨g',o'+i * 9+3,none⟩=some (.string x3)∧V.cell? ⟨g',o'+i * 9+4,none⟩=some (.bool x4)∧V.cell? ⟨g',o'+i * 9+5,none⟩=some (.slice d5 n5 e5)∧V.cell? ⟨g',o'+i * 9+6,none⟩=some (.slice d6 n6 e6)∧V.cell? ⟨g',o'+i * 9+7,none⟩=some (.slice d7 n7 e7)∧V.cell? ⟨g',o'+i * 9+8,none⟩=some (.slice d8 n8 e8))
    (first | with_reducible exact dK | with_reducible exact eD)
    (first | (go_at_call 57;refine Eo.out.mono ?_;rintro e w1 ⟨rfl,b1⟩;have HB1:Hid (Below wr.heap.size wr w1):=hd0.out.trans b1;have dK:=HS.out w1 HB1.out;clear b1))
   all_goals
    exact zz80
  .obtain ⟨-,rfl⟩:=hR.out.done hi
   exact zz123
theorem Ht (m:Nat) (lh:En Tryz.prog E 28 (E 3) m) (gB:En Tryz.prog E 29 (E 2) m):yH Tryz.prog E 8 (E 3) (m+1):=by
 intro F G nb W hm hf hn jc hs ht;replace hf:Fit E F [.i,.t,.b,.s 0,.s 1,.s 3,.s 2]:=hf;obtain ⟨x0,F0,rfl,hx0,hf⟩:=eu hf;obtain ⟨x1,F1,rfl,hx1,hf⟩:=aU hf;obtain ⟨x2,F2,rfl,hf⟩:=dE hf;obtain ⟨a3,n3,c3,k3,F3,rfl,hf3,hf⟩:=ay hf;obtain ⟨a4,n4,c4,k4,F4,rfl,sQ,hf⟩:=ay hf;obtain ⟨a5,n5,c5,k5,F5,rfl,jg,hf⟩:=ay hf;obtain ⟨a6,n6,c6,k6,F6,rfl,jB,hf⟩:=ay hf;obtain rfl:=ai hf;obtain ⟨u0,rfl,mY⟩:=Fo.aP jc;obtain ⟨u1,rfl,qX⟩:=Fo.aP mY;obtain ⟨u2,rfl,uu⟩:=Fo.aP qX;obtain ⟨d3,e3,t3,u3,rfl,r3,uw⟩:=Fo.aI uu;obtain ⟨d4,e4,t4,u4,rfl,r4,uy⟩:=Fo.aI uw;obtain ⟨d5,e5,t5,u5,rfl,r5,uz⟩:=Fo.aI uy;obtain ⟨d6,e6,t6,u6,rfl,r6,uA⟩:=Fo.aI uz;obtain rfl:=Fo.cB uA;clear jc mY qX uu uw uy uz uA;obtain ⟨hs3,hs4,hs5,hs6,-⟩:=hs;obtain ⟨ht3,XN,M6,M7,-⟩:=ht;simp only [Fo.size] at hm;simp only [Fo.vals];have uB:Hid (Fo.Sub W (λc=>c < nb) a3 n3 c3 k3):=hs3;have HT3:Hid (Fo.Sub W (λc=>c < nb) d3 n3 e3 t3):=ht3
 have CQ:Hid (Fo.Sub W (λc=>c < nb) a4 n4 c4 k4):=hs4;have Ma:Hid (Fo.Sub W (λc=>c < nb) d4 n4 e4 t4):=XN;have oC:Hid (Fo.Sub W (λc=>c < nb) a5 n5 c5 k5):=hs5;have UT:Hid (Fo.Sub W (λc=>c < nb) d5 n5 e5 t5):=M6;have oD:Hid (Fo.Sub W (λc=>c < nb) a6 n6 c6 k6):=hs6;have KC:Hid (Fo.Sub W (λc=>c < nb) d6 n6 e6 t6):=M7;clear hs3 ht3 hs4 XN hs5 M6 hs6 M7;obtain ⟨w0,bE⟩:∃V0,(W.alloc (.cells #[.int .i64 x0,.string x1,.bool x2,.slice a3 n3 c3,.slice a4 n4 c4,.slice a5 n5 c5,.slice a6 n6 c6] 35)).alloc (.cells #[.int .i64 x0,.string x1,.bool x2,.slice d3 n3 e3,.slice d4 n4 e4,.slice d5 n5 e5,.slice d6 n6 e6] 35)=V0:=⟨_,rfl⟩
 have HB0:Hid (Below W.heap.size W w0):=by rw [<- bE];exact below_alloc2 _ _ _
 have Q0:Hid (Bx w0 W.heap.size [.int .i64 x0,.string x1,.bool x2,.slice a3 n3 c3,.slice a4 n4 c4,.slice a5 n5 c5,.slice a6 n6 c6]):=by
  exact zz152
 have R0:Hid (Bx w0 (W.heap.size+1) [.int .i64 x0,.string x1,.bool x2,.slice d3 n3 e3,.slice d4 n4 e4,.slice d5 n5 e5,.slice d6 n6 e6]):=by
  rw [<- bE]
  have:=Bx.new (W.alloc (.cells #[.int .i64 x0,.string x1,.bool x2,.slice a3 n3 c3,.slice a4 n4 c4,.slice a5 n5 c5,.slice a6 n6 c6] 35)) [.int .i64 x0,.string x1,.bool x2,.slice d3 n3 e3,.slice d4 n4 e4,.slice d5 n5 e5,.slice d6 n6 e6] 35
  rwa [World.size_alloc] at this
 have gP:=hide bE;clear bE;go_enter Tryz.func8,Tryz.ntmps8;go_wp2_with fail;rw [gP.out];clear gP;have fQ:=Km m (.v (.bool x2) (.s a3 n3 c3 k3 .nil)) (.v (.bool x2) (.s d3 n3 e3 t3 .nil)) nb w0 (by simp only [Fo.size];omega) ⟨hf3,trivial⟩ (by have:=HB0.out.size;omega) ⟨rfl,rfl,r3,trivial⟩ ⟨(uB.out.below HB0.out (λc hc=>by omega)),trivial⟩ ⟨(HT3.out.below HB0.out (λc hc=>by omega)),trivial⟩;simp only [Fo.vals] at fQ;refine fQ.mono ?_;clear fQ;rintro e w1 ⟨rfl,b1⟩;have HB1:=hide (HB0.out.trans (b1.mono HB0.out.size));have Q1:=hide (Q0.out.below b1);have R1:=hide (R0.out.below b1);clear b1;have Gq:w1.cell? ⟨W.heap.size,4,none⟩=some (.slice a4 n4 c4):=Q1.out.ae 4 _ rfl;have UU:w1.cell? ⟨W.heap.size+1,4,none⟩=some (.slice d4 n4 e4):=R1.out.ae 4 _ rfl;have Gs:w1.cell? ⟨W.heap.size,5,none⟩=some (.slice a5 n5 c5):=Q1.out.ae 5 _ rfl
 have UW:w1.cell? ⟨W.heap.size+1,5,none⟩=some (.slice d5 n5 e5):=R1.out.ae 5 _ rfl;have Gt:w1.cell? ⟨W.heap.size,6,none⟩=some (.slice a6 n6 c6):=Q1.out.ae 6 _ rfl;have UX:w1.cell? ⟨W.heap.size+1,6,none⟩=some (.slice d6 n6 e6):=R1.out.ae 6 _ rfl;go_wp2_with fail;have iJ:=tQ m k4 t4 n4 nb w1 a4 d4 c4 e4 (by omega) sQ (by have:=HB1.out.size;omega) r4 (CQ.out.below HB1.out (λc hc=>by omega)) (Ma.out.below HB1.out (λc hc=>by omega));refine iJ.mono ?_;clear iJ;rintro e w2 ⟨rfl,b2⟩;have HB2:=hide (HB1.out.trans (b2.mono HB1.out.size));have Q2:=hide (Q1.out.below b2);have R2:=hide (R1.out.below b2);clear b2;have y25:w2.cell? ⟨W.heap.size,5,none⟩=some (.slice a5 n5 c5):=Q2.out.ae 5 _ rfl;have Y25:w2.cell? ⟨W.heap.size+1,5,none⟩=some (.slice d5 n5 e5):=R2.out.ae 5 _ rfl;have Qt:w2.cell? ⟨W.heap.size,6,none⟩=some (.slice a6 n6 c6):=Q2.out.ae 6 _ rfl
 have Y26:w2.cell? ⟨W.heap.size+1,6,none⟩=some (.slice d6 n6 e6):=R2.out.ae 6 _ rfl;go_wp2_with fail;have mK:=lh k5 t5 n5 nb w2 a5 d5 c5 e5 (by omega) jg (by have:=HB2.out.size;omega) r5 (oC.out.below HB2.out (λc hc=>by omega)) (UT.out.below HB2.out (λc hc=>by omega));refine mK.mono ?_;clear mK;rintro e w3 ⟨rfl,b3⟩;have HB3:=hide (HB2.out.trans (b3.mono HB2.out.size));have Q3:=hide (Q2.out.below b3);have R3:=hide (R2.out.below b3);clear b3;have Qu:w3.cell? ⟨W.heap.size,6,none⟩=some (.slice a6 n6 c6):=Q3.out.ae 6 _ rfl;have Y36:w3.cell? ⟨W.heap.size+1,6,none⟩=some (.slice d6 n6 e6):=R3.out.ae 6 _ rfl;go_wp2_with fail;have uU:=gB k6 t6 n6 nb w3 a6 d6 c6 e6 (by omega) jB (by have:=HB3.out.size;omega) r6 (oD.out.below HB3.out (λc hc=>by omega)) (KC.out.below HB3.out (λc hc=>by omega));refine uU.mono ?_;clear uU;rintro e w4 ⟨rfl,b4⟩
 have sV:=hide (HB3.out.trans (b4.mono HB3.out.size));have Q4:=hide (Q3.out.below b4);have R4:=hide (R3.out.below b4);clear b4;go_wp2_with fail;go_ret;exact ⟨rfl,sV.out⟩
theorem rP (m:Nat) (h:yH Tryz.prog E 8 (E 3) m):En Tryz.prog E 28 (E 3) m:=by
 intro F G n nb W a b cap KE hm hf hn jc hs ht;have hmx:n<=9223372036854775807:=by have h2:=hs.1;have h3:=hs.2.1;simp only [maxLen] at h3;omega
 have HR:=hide (Rd.start hf hs);have Hq:=hide (Rd.start (jc.fit hf) ht);have HM:=hide hm;have Hr:=hide jc;clear hf hs hm ht jc;go_enter Tryz.func28,Tryz.ntmps28;go_wp2_with fail
 go_loopw [5] (λs5 wr=>∃(i:Nat) (r q:Fo),s5=.int .i64 i∧i<=n∧Hid (r.size<=F.size)∧Hid (q.aG r)∧Hid (Rd E (E 3) n nb a i r wr)∧Hid (Rd E (E 3) n nb b i q wr)∧Hid (Below W.heap.size W wr)) (λs5 _=>n - (intOf s5).toNat)
 case atStart=>exact ⟨0,F,G,rfl,Nat.zero_le _,Nat.le_refl _,Hr,HR,Hq,Below.refl _ _⟩
 case round=>
  obtain ⟨i,r,q,rfl,hin,hrs,hrq,hR,hR',hB⟩:=hrel
  by_cases hi:i < n
  .obtain ⟨x,rr,g,o,rfl,hx,rfl,hg,hc,hxs,dx⟩:=hR.out.next hi (by decide)
   obtain ⟨y,qq,g',o',rfl,hy,rfl,hg',hc',hys,rO⟩:=hR'.out.next hi (by decide)
   have HR1:=hide dx;have y8:=hide rO;obtain ⟨hxy,y9⟩:=Fo.aG.split (x:=x) (y:=y) (by rw [Fit.len hx,Fit.len hy]) hrq.out;have HQ:=hide y9;have HZ:=hrs.out;rw [Fo.aM] at HZ;have hbz:=hB.out.size;have hii:(i:Int) < n:=by omega
   clear hR hR' dx rO hrs hrq y9 hy;replace hx:Fit E x [.i,.t,.b,.s 0,.s 1,.s 3,.s 2]:=hx;have HC:Hid (∀V,Below wr.heap.size wr V->Calls Tryz.prog 8 #[.agg x.vals.toArray,.agg y.vals.toArray] V λe W'=>e=.returned (.bool true)∧Below V.heap.size V W'):=λV bV=>h x y nb V (by have:=HM.out;omega) hx (by have:=bV.size;omega) hxy (hxs.below bV (λc hc=>by omega)) (hys.below bV (λc hc=>by omega))
   have HZ1:=hide HZ;have bM:=hide hbz;clear HZ hbz hxs hys;obtain ⟨x0,F0,rfl,hx0,hx⟩:=eu hx;obtain ⟨x1,F1,rfl,hx1,hx⟩:=aU hx;obtain ⟨x2,F2,rfl,hx⟩:=dE hx;obtain ⟨a3,n3,c3,k3,F3,rfl,hf3,hx⟩:=ay hx;obtain ⟨a4,n4,c4,k4,F4,rfl,sQ,hx⟩:=ay hx;obtain ⟨a5,n5,c5,k5,F5,rfl,jg,hx⟩:=ay hx;obtain ⟨a6,n6,c6,k6,F6,rfl,jB,hx⟩:=ay hx;obtain rfl:=ai hx;obtain ⟨u0,rfl,mY⟩:=Fo.aP hxy;obtain ⟨u1,rfl,qX⟩:=Fo.aP mY;obtain ⟨u2,rfl,uu⟩:=Fo.aP qX;obtain ⟨d3,e3,t3,u3,rfl,r3,uw⟩:=Fo.aI uu;obtain ⟨d4,e4,t4,u4,rfl,r4,uy⟩:=Fo.aI uw;obtain ⟨d5,e5,t5,u5,rfl,r5,uz⟩:=Fo.aI uy;obtain ⟨d6,e6,t6,u6,rfl,r6,uA⟩:=Fo.aI uz;obtain rfl:=Fo.cB uA;clear hxy mY qX uu uw uy uz uA;simp only [Fo.vals] at HC hc hc'
   have HS:Hid (∀V,Below wr.heap.size wr V->V.cell? ⟨g,o+i * 7,none⟩=some (.int .i64 x0)∧V.cell? ⟨g,o+i * 7+1,none⟩=some (.string x1)∧V.cell? ⟨g,o+i * 7+2,none⟩=some (.bool x2)∧V.cell? ⟨g,o+i * 7+3,none⟩=some (.slice a3 n3 c3)∧V.cell? ⟨g,o+i * 7+4,none⟩=some (.slice a4 n4 c4)∧V.cell? ⟨g,o+i * 7+5,none⟩=some (.slice a5 n5 c5)∧V.cell? ⟨g,o+i * 7+6,none⟩=some (.slice a6 n6 c6)∧V.cell? ⟨g',o'+i * 7,none⟩=some (.int .i64 x0)∧V.cell? ⟨g',o'+i * 7+1,none⟩=some (.string x1)∧V.cell? ⟨g',o'+i * 7+2,none⟩=some (.bool x2)∧V.cell? ⟨g',o'+i * 7+3,none⟩=some (.slice d3 n3 e3)∧V.cell? ⟨g',o'+i * 7+4,none⟩=some (.slice d4 n4 e4)∧V.cell? ⟨g',o'+i * 7+5,none⟩=some (.slice d5 n5 e5)∧V.cell? ⟨g',o'+i * 7+6,none⟩=some (.slice d6 n6 e6)):=λV bV=>by
    have h1:=hc.below bV (by have:=bM.out;omega);have h2:=hc'.below bV (by have:=bM.out;omega);exact ⟨h1 0 _ rfl,h1 1 _ rfl,h1 2 _ rfl,h1 3 _ rfl,h1 4 _ rfl,h1 5 _ rfl,h1 6 _ rfl,h2 0 _ rfl,h2 1 _ rfl,h2 2 _ rfl,h2 3 _ rfl,h2 4 _ rfl,h2 5 _ rfl,h2 6 _ rfl⟩
   clear hc hc';have hd0:Hid (Below wr.heap.size wr wr.drew):=(Below.refl _ wr).drew;have eD:=HS.out wr.drew hd0.out;have M8:=HS.out wr (Below.refl _ _);have Eo:=hide (HC.out wr.drew hd0.out);obtain ⟨p0,p1,p2,p3,p4,p5,p6,p7,p8,p9,p10,p11,p12,p13⟩:=M8;clear HC;go_wp2_with fail
   go_region_held3 (λV=>V.cell? ⟨g,o+i * 7,none⟩=some (.int .i64 x0)∧V.cell? ⟨g,o+i * 7+1,none⟩=some (.string x1)∧V.cell? ⟨g,o+i * 7+2,none⟩=some (.bool x2)∧V.cell? ⟨g,o+i * 7+3,none⟩=some (.slice a3 n3 c3)∧V.cell? ⟨g,o+i * 7+4,none⟩=some (.slice a4 n4 c4)∧V.cell? ⟨g,o+i * 7+5,none⟩=some (.slice a5 n5 c5)∧V.cell? ⟨g,o+i * 7+6,none⟩=some (.slice a6 n6 c6)∧V.cell? ⟨g',o'+i * 7,none⟩=some (.int .i64 x0)∧V.cell? ⟨g',o'+i * 7+1,none⟩=some (.string x1)∧V.cell? ⟨g',o'+i * 7+2,none⟩=some (.bool x2)∧V.cell? ⟨g',o'+i * 7+3,none⟩=some (.slice d3 n3 e3)∧V.cell? ⟨g',o'+i * 7+4,none⟩=some (.slice d4 n4 e4)∧V.cell? ⟨g',o'+i * 7+5,none⟩=some (.slice d5 n5 e5)∧V.cell? ⟨g',o'+i * 7+6,none⟩=some (.slice d6 n6 e6))
    (first | with_reducible exact dK | with_reducible exact eD)
    (first | (go_at_call 8;refine Eo.out.mono ?_;rintro e w1 ⟨rfl,b1⟩;have HB1:Hid (Below wr.heap.size wr w1):=hd0.out.trans b1;have dK:=HS.out w1 HB1.out;clear b1))
   all_goals
    exact zz80
  .obtain ⟨-,rfl⟩:=hR.out.done hi
   exact zz123
theorem oJ:∀m:Nat,(yH Tryz.prog E 57 (E 2) m∧En Tryz.prog E 29 (E 2) m)∧(yH Tryz.prog E 8 (E 3) m∧En Tryz.prog E 28 (E 3) m)
 | 0=>by
  have eF:yH Tryz.prog E 57 (E 2) 0:=(λF _ _ _ hm hf=>absurd (Fit.len hf) (by have:=F.fJ;show ¬F.len=9;omega))
  have iF:=oI 0 eF;have iG:yH Tryz.prog E 8 (E 3) 0:=(λF _ _ _ hm hf=>absurd (Fit.len hf) (by have:=F.fJ;show ¬F.len=7;omega))
  have nQ:=rP 0 iG;exact ⟨⟨eF,iF⟩,⟨iG,nQ⟩⟩
 | m+1=>by
  have ih:=oJ m;have iG:=Ht m ih.2.2 ih.1.2;have nQ:=rP (m+1) iG;have eF:=Br (m+1) iG;have iF:=oI (m+1) eF;exact ⟨⟨eF,iF⟩,⟨iG,nQ⟩⟩
theorem rQ (m:Nat):yH Tryz.prog E 8 (E 3) m:=(oJ m).2.1
end Go.Proofs.YthfnobboalhihaaGreat
