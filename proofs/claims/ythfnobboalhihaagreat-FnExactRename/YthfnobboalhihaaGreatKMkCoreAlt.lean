import Derived.Test.YthfnobboalhihaaGreatKx
set_option maxHeartbeats 2000000
set_option maxRecDepth 100000
namespace Go.Proofs.YthfnobboalhihaaGreat
open Go.RowKit Go.Joins
theorem zz109 {P:Prop} (h:P:=by
 rw [<- hV2];exact (I1.out.set (q:=q) (by have:=hfp.out;(try simp only [Fo.aR,Fo.len]);omega) (by have:=hq.out;(try simp only [Fo.aW,Fo.ct] at this ⊢);omega) (by first | rfl | (simp only [mkV];congr 1;omega)))):P:=h
theorem zz157 {P:Prop} (h:P:=by
 have e:((q:Nat):Int)=(q:Int):=by omega
 rw [<- e];exact jX (q) w (by have:=dm.out;have:=hq.out;omega) (by have:=dm.out;have:=hq.out;omega)):P:=h
theorem lT (m:Nat):xQ Tryz.prog E 31 (E 1) m:=by
 intro F n a cap k W hm hf hk0 hk hs hnd hlv;have hmx:n<=9223372036854775807:=by have h2:=hs.1.1;have h3:=hs.1.2.1;simp only [maxLen] at h3;omega
 have hfl:F.len=n * 1:=by rw [Fit.len hf,dz];rfl
 by_cases hp:0 < n
 .have hl:0 < F.len:=by omega
  obtain ⟨b,o,rfl,-,-,-⟩:=hs.1.2.2 hl;have HI:=hide (iI.start (k0:=k) hl hs.1 (by simpa [Fo.ah] using hnd) (by simpa [Fo.ah] using hlv));have HL:=hide hl;have HF:=hide hf;have HM:=hide hm;have HK:=hide hk;have vW:=hide (And.intro hs.1.1 hs.1.2.1);clear hl hf hs hnd hlv hm hk hfl;go_enter Tryz.func31,Tryz.ntmps31;go_wp2_with fail
  go_loopw [1,5] (λs1 s5 wr=>∃(i q:Nat) (r Fp:Fo),s1=.int .i64 (q:Int)∧s5=.int .i64 i∧i<=n∧Hid (k+Fp.ct=q)∧Hid (Fp.len=i * 1)∧Hid (Fit E r (rep (E 1) (n - i)))∧Hid (iI b o F k W Fp r wr)) (λ_ s5 _=>n - (intOf s5).toNat)
  case atStart=>exact ⟨0,k,F,.nil,rfl,rfl,Nat.zero_le _,(by show _=_;simp [Fo.ct]),(by show _=_;simp [Fo.len]),HF,HI⟩
  case round=>
   obtain ⟨i,q,r,Fp,rfl,rfl,hin,hq,hfp,hR,hI⟩:=hrel
   by_cases hi:i < n
   .obtain ⟨x,rr,rfl,hx,hrr,-⟩:=hR.out.next hi
    have HRR:=hide hrr;have hii:(i:Int) < n:=by omega
    have hct:=congrArg Fo.ct hI.out.eq;have hsz:=congrArg Fo.size hI.out.eq;clear hR hrr;replace hx:Fit E x [.t]:=hx;obtain ⟨x0,F0,rfl,hx0,hx⟩:=aU hx;obtain rfl:=ai hx;have I0:Hid (iI b o F k W Fp (.v (.string x0) rr) wr):=hI;simp only [Fo.app,Fo.aW,Fo.ct] at hct;simp only [Fo.app,Fo.aM,Fo.size] at hsz;have hqk:0 < q∧q+(1)<=4294967296:=by have:=hq.out;have:=HK.out;omega
    have dm:=hide hqk;have hv0:q+1<=4294967296:=by omega
    have fZ:=hide hsz;clear hI hct hsz hqk;have sP:Hid (∀w,Calls Tryz.prog 59 #[.int .i64 ((q:Int))] w λe w'=>e=.returned (.string (mt (q)))∧Below w.heap.size w w'):=λw=>by
     exact zz157
    go_wp2_with fail;refine (sP.out wr).mono ?_;rintro e w1 ⟨rfl,b1⟩;have I1:=hide (I0.out.below b1);clear b1 sP;have Ta:w1.cell? ⟨b,o+i,none⟩=some (.string x0):=I1.out.at_ 0 _ rfl (by have:=hfp.out;(try simp only [Fo.aR,Fo.len]);omega);have Tc:=I1.out.free (o+i);obtain ⟨V2,hV2⟩:∃V,(w1.setCell ⟨b,o+i,none⟩ (.string (mt (q))))=V:=⟨_,rfl⟩
    have I2:Hid (iI b o F k W (Fp.app (.v (.string x0) .nil)) rr V2):=by
     exact zz109
    have qW:=hide hV2;clear hV2;go_wp2_with fail;go_roundw
    case rel=>exact ⟨i+1,q+1,rr,(Fp.app (.v (.string x0) .nil)),by first | rfl | go_num,by go_num,by omega,(by show _=_;have:=hq.out;simp only [Fo.aW,Fo.ct] at this ⊢;omega),(by show _=_;have:=hfp.out;(try simp only [Fo.aR,Fo.len]);omega),HRR,(by rw [<- qW.out] at I2;exact I2)⟩
    case measure=>simp [intOf];omega
   .have e1:=hR.out.done hi
    exact zz36
 .have e1:n=0:=by omega
  subst e1;obtain rfl:=ai hf;clear hfl;go_enter Tryz.func31,Tryz.ntmps31;exact zz24
theorem zz110 {P:Prop} (h:P:=by
 rw [<- hV1];exact (I0.out.set (q:=q) (by have:=hfp.out;(try simp only [Fo.aR,Fo.len]);omega) (by have:=hq.out;(try simp only [Fo.aW,Fo.ct] at this ⊢);omega) (by first | rfl | (simp only [mkV];congr 1;omega)))):P:=h
theorem o7 (m:Nat):xQ Tryz.prog E 58 (E 0) m:=by
 intro F n a cap k W hm hf hk0 hk hs hnd hlv;have hmx:n<=9223372036854775807:=by have h2:=hs.1.1;have h3:=hs.1.2.1;simp only [maxLen] at h3;omega
 have hfl:F.len=n * 1:=by rw [Fit.len hf,dz];rfl
 by_cases hp:0 < n
 .have hl:0 < F.len:=by omega
  obtain ⟨b,o,rfl,-,-,-⟩:=hs.1.2.2 hl;have HI:=hide (iI.start (k0:=k) hl hs.1 (by simpa [Fo.ah] using hnd) (by simpa [Fo.ah] using hlv));have HL:=hide hl;have HF:=hide hf;have HM:=hide hm;have HK:=hide hk;have vW:=hide (And.intro hs.1.1 hs.1.2.1);clear hl hf hs hnd hlv hm hk hfl;go_enter Tryz.func58,Tryz.ntmps58;go_wp2_with fail
  go_loopw [1,5] (λs1 s5 wr=>∃(i q:Nat) (r Fp:Fo),s1=.int .i64 (q:Int)∧s5=.int .i64 i∧i<=n∧Hid (k+Fp.ct=q)∧Hid (Fp.len=i * 1)∧Hid (Fit E r (rep (E 0) (n - i)))∧Hid (iI b o F k W Fp r wr)) (λ_ s5 _=>n - (intOf s5).toNat)
  case atStart=>exact ⟨0,k,F,.nil,rfl,rfl,Nat.zero_le _,(by show _=_;simp [Fo.ct]),(by show _=_;simp [Fo.len]),HF,HI⟩
  case round=>
   obtain ⟨i,q,r,Fp,rfl,rfl,hin,hq,hfp,hR,hI⟩:=hrel
   by_cases hi:i < n
   .obtain ⟨x,rr,rfl,hx,hrr,-⟩:=hR.out.next hi
    have HRR:=hide hrr;have hii:(i:Int) < n:=by omega
    have hct:=congrArg Fo.ct hI.out.eq;have hsz:=congrArg Fo.size hI.out.eq;clear hR hrr;replace hx:Fit E x [.u]:=hx;obtain ⟨x0,F0,rfl,hx0,hx⟩:=jy hx;obtain rfl:=ai hx;have I0:Hid (iI b o F k W Fp (.v (.int .u32 x0) rr) wr):=hI;simp only [Fo.app,Fo.aW,Fo.ct] at hct;simp only [Fo.app,Fo.aM,Fo.size] at hsz;have hqk:0 < q∧q+(1)<=4294967296:=by have:=hq.out;have:=HK.out;omega
    have dm:=hide hqk;have hv0:q+1<=4294967296:=by omega
    have fZ:=hide hsz;clear hI hct hsz hqk;have tO:wr.cell? ⟨b,o+i,none⟩=some (.int .u32 x0):=I0.out.at_ 0 _ rfl (by have:=hfp.out;(try simp only [Fo.aR,Fo.len]);omega);have Td:=I0.out.free (o+i);obtain ⟨V1,hV1⟩:∃V,(wr.setCell ⟨b,o+i,none⟩ (.int .u32 ((q:Int))))=V:=⟨_,rfl⟩
    have I1:Hid (iI b o F k W (Fp.app (.v (.int .u32 x0) .nil)) rr V1):=by
     exact zz110
    have gD:=hide hV1;clear hV1;go_wp2_with fail;go_roundw
    case rel=>exact ⟨i+1,q+1,rr,(Fp.app (.v (.int .u32 x0) .nil)),by first | rfl | go_num,by go_num,by omega,(by show _=_;have:=hq.out;simp only [Fo.aW,Fo.ct] at this ⊢;omega),(by show _=_;have:=hfp.out;(try simp only [Fo.aR,Fo.len]);omega),HRR,(by rw [<- gD.out] at I1;exact I1)⟩
    case measure=>simp [intOf];omega
   .have e1:=hR.out.done hi
    exact zz36
 .have e1:n=0:=by omega
  subst e1;obtain rfl:=ai hf;clear hfl;go_enter Tryz.func58,Tryz.ntmps58;exact zz24
theorem Kl (m:Nat):Xq Tryz.prog E 30 [.b,.s 0] m:=by
 intro F k W hm hf hk0 hk hs hnd hlv;have HI:=hide (ji.start (k0:=k) hs hnd hlv);clear hs hnd hlv
 skip
 obtain ⟨x0,F0,rfl,hf⟩:=dE hf;obtain ⟨a1,n1,c1,k1,F1,rfl,hf1,hf⟩:=ay hf;obtain rfl:=ai hf;simp only [Fo.size] at hm;simp only [Fo.bZ] at hk ⊢;simp only [Fo.vals];have HK:=hide hk;clear hk;have gP:=hide (below_alloc1 W (.cells #[.bool x0,.slice a1 n1 c1] 31));have Q0:=hide (Bx.new W [.bool x0,.slice a1 n1 c1] 31);have I0:=hide (HI.out.below gP.out);obtain ⟨w0,hw0⟩:∃V,W.alloc (.cells #[.bool x0,.slice a1 n1 c1] 31)=V:=⟨_,rfl⟩
 rw [hw0] at Q0 I0 gP;have Gn:=hide hw0;clear hw0 HI;go_enter Tryz.func30,Tryz.ntmps30;have hq:Hid (k+Fo.bZ .nil=k):=rfl;have D6:=hide (I0.out.skip);have D7:Hid (k+((Fo.nil).app (.v (.bool x0) .nil)).bZ=k):=by
  have:=hq.out
  show _=_;simp only [Fo.gF,Fo.bZ] at this ⊢;omega
 go_wp2_with fail;rw [Gn.out];have hb1:k+Fo.bZ (.s a1 n1 c1 k1 .nil)<=4294967296:=by have:=HK.out;have:=D7.out;simp only [Fo.gF,Fo.bZ] at this ⊢;omega
 have S1:=ji.sub (X:=(.s a1 n1 c1 k1 .nil)) D6.out;have fQ:=o7 (k1.size+1) k1 n1 a1 c1 k w0 (Nat.lt_succ_self _) hf1 (by  omega) (by simp only [Fo.bZ] at hb1;omega) S1.1 S1.2.1 S1.2.2;refine fQ.mono ?_;clear fQ S1;rintro e w1 ⟨rfl,s1,b1,l1⟩;have I1:=hide (ji.call (X:=(.s a1 n1 c1 k1 .nil)) D6.out D7.out b1 s1 l1);obtain ⟨q1,hq1⟩:∃q1,k+k1.ct=q1:=⟨_,rfl⟩
 rw [hq1];have Q1:=hide (Q0.out.kept b1 (ji.away (X:=(.s a1 n1 c1 k1 .nil)) D6.out (Nat.le_refl _)));have dZ:Hid (k+k1.ct=q1):=by
  have:=hq1
  show _=_
  skip
  omega
 have Ji:Hid (k+(((Fo.nil).app (.v (.bool x0) .nil)).app (.s a1 n1 c1 k1 .nil)).bZ=q1):=by
  have:=D7.out
  have:=dZ.out
  show _=_;simp only [Fo.gF,Fo.bZ] at *;omega
 clear b1 s1 l1 hq1 hb1;have h1:=hide (I1.out.finish);go_wp2_with fail;go_ret;exact ⟨gH (by have:=dZ.out;omega),h1.out.1,h1.out.2.1,h1.out.2.2⟩
theorem uS (m:Nat) (lh:xQ Tryz.prog E 32 (E 3) m) (gB:xQ Tryz.prog E 33 (E 2) m):xQ Tryz.prog E 33 (E 2) (m+1):=by
 intro F n a cap k W hm hf hk0 hk hs hnd hlv;have hmx:n<=9223372036854775807:=by have h2:=hs.1.1;have h3:=hs.1.2.1;simp only [maxLen] at h3;omega
 have hfl:F.len=n * 9:=by rw [Fit.len hf,dz];rfl
 by_cases hp:0 < n
 .have hl:0 < F.len:=by omega
  obtain ⟨b,o,rfl,-,-,-⟩:=hs.1.2.2 hl;have HI:=hide (iI.start (k0:=k) hl hs.1 (by simpa [Fo.ah] using hnd) (by simpa [Fo.ah] using hlv));have HL:=hide hl;have HF:=hide hf;have HM:=hide hm;have HK:=hide hk;have vW:=hide (And.intro hs.1.1 hs.1.2.1);clear hl hf hs hnd hlv hm hk hfl;go_enter Tryz.func33,Tryz.ntmps33;go_wp2_with fail
  go_loopw [1,5] (λs1 s5 wr=>∃(i q:Nat) (r Fp:Fo),s1=.int .i64 (q:Int)∧s5=.int .i64 i∧i<=n∧Hid (k+Fp.ct=q)∧Hid (Fp.len=i * 9)∧Hid (Fit E r (rep (E 2) (n - i)))∧Hid (iI b o F k W Fp r wr)) (λ_ s5 _=>n - (intOf s5).toNat)
  case atStart=>exact ⟨0,k,F,.nil,rfl,rfl,Nat.zero_le _,(by show _=_;simp [Fo.ct]),(by show _=_;simp [Fo.len]),HF,HI⟩
  case round=>
   obtain ⟨i,q,r,Fp,rfl,rfl,hin,hq,hfp,hR,hI⟩:=hrel
   by_cases hi:i < n
   .obtain ⟨x,rr,rfl,hx,hrr,-⟩:=hR.out.next hi
    have HRR:=hide hrr;have hii:(i:Int) < n:=by omega
    have hct:=congrArg Fo.ct hI.out.eq;have hsz:=congrArg Fo.size hI.out.eq;clear hR hrr;replace hx:Fit E x [.t,.s 1,.i,.t,.b,.s 0,.s 1,.s 3,.s 2]:=hx;obtain ⟨x0,F0,rfl,hx0,hx⟩:=aU hx;obtain ⟨a1,n1,c1,k1,F1,rfl,hf1,hx⟩:=ay hx;obtain ⟨x2,F2,rfl,hx2,hx⟩:=eu hx;obtain ⟨x3,F3,rfl,hx3,hx⟩:=aU hx;obtain ⟨x4,F4,rfl,hx⟩:=dE hx;obtain ⟨a5,n5,c5,k5,F5,rfl,jg,hx⟩:=ay hx;obtain ⟨a6,n6,c6,k6,F6,rfl,jB,hx⟩:=ay hx;obtain ⟨a7,n7,c7,k7,F7,rfl,xR,hx⟩:=ay hx;obtain ⟨a8,n8,c8,k8,F8,rfl,xS,hx⟩:=ay hx;obtain rfl:=ai hx;have I0:Hid (iI b o F k W Fp (.v (.string x0) (.s a1 n1 c1 k1 (.v (.int .i64 x2) (.v (.string x3) (.v (.bool x4) (.s a5 n5 c5 k5 (.s a6 n6 c6 k6 (.s a7 n7 c7 k7 (.s a8 n8 c8 k8 rr))))))))) wr):=hI;simp only [Fo.app,Fo.aW,Fo.ct] at hct;simp only [Fo.app,Fo.aM,Fo.size] at hsz;have hqk:0 < q∧q+(1+k1.ct+1+1+1+k5.ct+k6.ct+k7.ct+k8.ct)<=4294967296:=by have:=hq.out;have:=HK.out;omega
    have dm:=hide hqk;have hv0:q+4<=4294967296:=by omega
    have fZ:=hide hsz;clear hI hct hsz hqk;have sP:Hid (∀w,Calls Tryz.prog 59 #[.int .i64 ((q:Int))] w λe w'=>e=.returned (.string (mt (q)))∧Below w.heap.size w w'):=λw=>by
     exact zz157
    go_wp2_with fail;refine (sP.out wr).mono ?_;rintro e w1 ⟨rfl,b1⟩;have I1:=hide (I0.out.below b1);clear b1 sP;have om:Hid (∀w,Fo.av w (λc=>c < w.heap.size) (.s a1 n1 c1 k1 .nil)->(Fo.ah (.s a1 n1 c1 k1 .nil)).Nodup->Live w (Fo.ah (.s a1 n1 c1 k1 .nil))->Calls Tryz.prog 31 #[.slice a1 n1 c1,.int .i64 ((q:Int)+1)] w λe w'=>e=.returned (.int .i64 ((q+1+k1.ct:Nat):Int))∧
      Fo.av w' (λc=>c < w.heap.size) (Fo.jC (.s a1 n1 c1 k1 .nil) (q+1))∧Kept (λc=>c∉Fo.ah (.s a1 n1 c1 k1 .nil)) w w'∧Live w' (Fo.ah (.s a1 n1 c1 k1 .nil))):=λw h1 h2 h3=>by
     have e:((q+1:Nat):Int)=(q:Int)+1:=by omega
     rw [<- e];exact lT m k1 n1 a1 c1 (q+1) w (by have:=HM.out;have:=fZ.out;omega) hf1 (by have:=dm.out;have:=hq.out;omega) (by have:=dm.out;have:=hq.out;omega) h1 h2 h3
    have Ta:w1.cell? ⟨b,o+i * 9,none⟩=some (.string x0):=I1.out.at_ 0 _ rfl (by have:=hfp.out;(try simp only [Fo.aR,Fo.len]);omega);have Tc:=I1.out.free (o+i * 9);have L9:w1.cell? ⟨b,o+i * 9+1,none⟩=some (.slice a1 n1 c1):=I1.out.at_ 1 _ rfl (by have:=hfp.out;(try simp only [Fo.aR,Fo.len]);omega);obtain ⟨V2,hV2⟩:∃V,(w1.setCell ⟨b,o+i * 9,none⟩ (.string (mt (q))))=V:=⟨_,rfl⟩
    have I2:Hid (iI b o F k W (Fp.app (.v (.string x0) .nil)) (.s a1 n1 c1 k1 (.v (.int .i64 x2) (.v (.string x3) (.v (.bool x4) (.s a5 n5 c5 k5 (.s a6 n6 c6 k6 (.s a7 n7 c7 k7 (.s a8 n8 c8 k8 rr)))))))) V2):=by
     exact zz109
    have qW:=hide hV2;clear hV2;go_wp2_with fail;rw [qW.out];clear Ta Tc L9;refine (om.out V2 I2.out.sub.1 I2.out.sub.2.1 I2.out.sub.2.2).mono ?_;rintro e w3 ⟨rfl,s3,b3,l3⟩;have I3:=hide (I2.out.call (q:=q+1) (by have:=hq.out;(try simp only [Fo.aW,Fo.ct] at this ⊢);omega) b3 s3 l3);obtain ⟨q1,hq1⟩:∃q1,q+1+k1.ct=q1:=⟨_,rfl⟩
    rw [hq1];have gN:Hid (k+((Fp.app (.v (.string x0) .nil)).app (.s a1 n1 c1 k1 .nil)).ct=q1∧q+1+k1.ct=q1):=⟨by have:=hq.out;(try simp only [Fo.aW,Fo.ct] at this ⊢);omega,hq1⟩
    have iZ:Hid (k+((Fp.app (.v (.string x0) .nil)).app (.s a1 n1 c1 k1 .nil)).ct=q1):=gN.out.1;have hv2:q1+3<=4294967296:=by have:=dm.out;have:=gN.out;omega
    clear b3 s3 l3 hq1 om;have yB:Hid (∀w,Calls Tryz.prog 59 #[.int .i64 ((q1:Int)+1)] w λe w'=>e=.returned (.string (mt (q1+1)))∧Below w.heap.size w w'):=λw=>by
     have e:((q1+1:Nat):Int)=(q1:Int)+1:=by omega
     rw [<- e];exact jX (q1+1) w (by have:=dm.out;have:=iZ.out;omega) (by have:=dm.out;have:=iZ.out;have:=gN.out;omega)
    have Xc:w3.cell? ⟨b,o+i * 9+2,none⟩=some (.int .i64 x2):=I3.out.at_ 0 _ rfl (by have:=hfp.out;(try simp only [Fo.aR,Fo.len]);omega);have Xd:=I3.out.free (o+i * 9+2);obtain ⟨V4,jD⟩:∃V,(w3.setCell ⟨b,o+i * 9+2,none⟩ (.int .i64 ((q1:Int))))=V:=⟨_,rfl⟩
    have I4:Hid (iI b o F k W (((Fp.app (.v (.string x0) .nil)).app (.s a1 n1 c1 k1 .nil)).app (.v (.int .i64 x2) .nil)) (.v (.string x3) (.v (.bool x4) (.s a5 n5 c5 k5 (.s a6 n6 c6 k6 (.s a7 n7 c7 k7 (.s a8 n8 c8 k8 rr)))))) V4):=by
     rw [<- jD];exact (I3.out.set (q:=q1) (by have:=hfp.out;(try simp only [Fo.aR,Fo.len]);omega) (by have:=iZ.out;(try simp only [Fo.aW,Fo.ct] at this ⊢);omega) (by first | rfl | (simp only [mkV];congr 1;omega)))
    have Qr:=hide jD;clear jD;go_wp2_with fail;rw [Qr.out];clear Xc Xd;refine (yB.out V4).mono ?_;rintro e w5 ⟨rfl,b5⟩;have I5:=hide (I4.out.below b5);clear b5 yB;obtain ⟨g4,hg4⟩:∃g,decide ((q1+2) % 3=0)=g:=⟨_,rfl⟩
    have Ma:((((q1:Int)+1+1):Int).tmod 3==0)=g4:=by
     exact zz133
    have HU4:((((q1:Int)+1+1):Int) % 3==0)=g4:=by rw [<- Ma,Int.tmod_eq_emod_of_nonneg (by omega)]
    have qh:=hide hg4;clear hg4;have yC:Hid (∀w,Fo.av w (λc=>c < w.heap.size) (.s a5 n5 c5 k5 .nil)->(Fo.ah (.s a5 n5 c5 k5 .nil)).Nodup->Live w (Fo.ah (.s a5 n5 c5 k5 .nil))->Calls Tryz.prog 58 #[.slice a5 n5 c5,.int .i64 ((q1:Int)+1+1+1)] w λe w'=>e=.returned (.int .i64 ((q1+3+k5.ct:Nat):Int))∧
      Fo.av w' (λc=>c < w.heap.size) (Fo.jC (.s a5 n5 c5 k5 .nil) (q1+3))∧Kept (λc=>c∉Fo.ah (.s a5 n5 c5 k5 .nil)) w w'∧Live w' (Fo.ah (.s a5 n5 c5 k5 .nil))):=λw h1 h2 h3=>by
     have e:((q1+3:Nat):Int)=(q1:Int)+1+1+1:=by omega
     rw [<- e];exact o7 m k5 n5 a5 c5 (q1+3) w (by have:=HM.out;have:=fZ.out;omega) jg (by have:=dm.out;have:=iZ.out;omega) (by have:=dm.out;have:=iZ.out;have:=gN.out;omega) h1 h2 h3
    have Xe:w5.cell? ⟨b,o+i * 9+3,none⟩=some (.string x3):=I5.out.at_ 0 _ rfl (by have:=hfp.out;(try simp only [Fo.aR,Fo.len]);omega);have Xf:=I5.out.free (o+i * 9+3);have Xg:w5.cell? ⟨b,o+i * 9+4,none⟩=some (.bool x4):=I5.out.at_ 1 _ rfl (by have:=hfp.out;(try simp only [Fo.aR,Fo.len]);omega);have Xh:=I5.out.free (o+i * 9+4);have Mc:w5.cell? ⟨b,o+i * 9+5,none⟩=some (.slice a5 n5 c5):=I5.out.at_ 2 _ rfl (by have:=hfp.out;(try simp only [Fo.aR,Fo.len]);omega);obtain ⟨V6,Uw⟩:∃V,((w5.setCell ⟨b,o+i * 9+3,none⟩ (.string (mt (q1+1)))).setCell ⟨b,o+i * 9+4,none⟩ (.bool g4))=V:=⟨_,rfl⟩
    have I6:Hid (iI b o F k W (((((Fp.app (.v (.string x0) .nil)).app (.s a1 n1 c1 k1 .nil)).app (.v (.int .i64 x2) .nil)).app (.v (.string x3) .nil)).app (.v (.bool x4) .nil)) (.s a5 n5 c5 k5 (.s a6 n6 c6 k6 (.s a7 n7 c7 k7 (.s a8 n8 c8 k8 rr)))) V6):=by
     rw [<- Uw];exact ((I5.out.set (q:=q1+1) (by have:=hfp.out;(try simp only [Fo.aR,Fo.len]);omega) (by have:=iZ.out;(try simp only [Fo.aW,Fo.ct] at this ⊢);omega) (by first | rfl | (simp only [mkV];congr 1;omega))).set (q:=q1+2) (by have:=hfp.out;(try simp only [Fo.aR,Fo.len]);omega) (by have:=iZ.out;(try simp only [Fo.aW,Fo.ct] at this ⊢);omega) (by first | rfl | (simp only [mkV];congr 1;omega) | (simp only [mkV];rw [qh.out])))
    have HV6:=hide Uw;clear Uw;go_wp2_with fail;rw [HV6.out];clear Xe Xg Xf Xh Mc;refine (yC.out V6 I6.out.sub.1 I6.out.sub.2.1 I6.out.sub.2.2).mono ?_;rintro e w7 ⟨rfl,s7,b7,l7⟩;have I7:=hide (I6.out.call (q:=q1+3) (by have:=iZ.out;(try simp only [Fo.aW,Fo.ct] at this ⊢);omega) b7 s7 l7);obtain ⟨q5,tZ⟩:∃q5,q1+3+k5.ct=q5:=⟨_,rfl⟩
    rw [tZ];have ig:Hid (k+((((((Fp.app (.v (.string x0) .nil)).app (.s a1 n1 c1 k1 .nil)).app (.v (.int .i64 x2) .nil)).app (.v (.string x3) .nil)).app (.v (.bool x4) .nil)).app (.s a5 n5 c5 k5 .nil)).ct=q5∧q1+3+k5.ct=q5):=⟨by have:=iZ.out;(try simp only [Fo.aW,Fo.ct] at this ⊢);omega,tZ⟩
    have o8:Hid (k+((((((Fp.app (.v (.string x0) .nil)).app (.s a1 n1 c1 k1 .nil)).app (.v (.int .i64 x2) .nil)).app (.v (.string x3) .nil)).app (.v (.bool x4) .nil)).app (.s a5 n5 c5 k5 .nil)).ct=q5):=ig.out.1;have hv6:q5+0<=4294967296:=by have:=dm.out;have:=gN.out;have:=ig.out;omega
    clear b7 s7 l7 tZ yC;have yD:Hid (∀w,Fo.av w (λc=>c < w.heap.size) (.s a6 n6 c6 k6 .nil)->(Fo.ah (.s a6 n6 c6 k6 .nil)).Nodup->Live w (Fo.ah (.s a6 n6 c6 k6 .nil))->Calls Tryz.prog 31 #[.slice a6 n6 c6,.int .i64 ((q5:Int))] w λe w'=>e=.returned (.int .i64 ((q5+k6.ct:Nat):Int))∧
      Fo.av w' (λc=>c < w.heap.size) (Fo.jC (.s a6 n6 c6 k6 .nil) (q5))∧Kept (λc=>c∉Fo.ah (.s a6 n6 c6 k6 .nil)) w w'∧Live w' (Fo.ah (.s a6 n6 c6 k6 .nil))):=λw h1 h2 h3=>by
     have e:((q5:Nat):Int)=(q5:Int):=by omega
     rw [<- e];exact lT m k6 n6 a6 c6 (q5) w (by have:=HM.out;have:=fZ.out;omega) jB (by have:=dm.out;have:=o8.out;omega) (by have:=dm.out;have:=o8.out;have:=gN.out;have:=ig.out;omega) h1 h2 h3
    have Xi:w7.cell? ⟨b,o+i * 9+6,none⟩=some (.slice a6 n6 c6):=I7.out.at_ 0 _ rfl (by have:=hfp.out;(try simp only [Fo.aR,Fo.len]);omega);go_wp2_with fail;clear Xi;refine (yD.out w7 I7.out.sub.1 I7.out.sub.2.1 I7.out.sub.2.2).mono ?_;rintro e w8 ⟨rfl,s8,b8,l8⟩;have I8:=hide (I7.out.call (q:=q5) (by have:=o8.out;(try simp only [Fo.aW,Fo.ct] at this ⊢);omega) b8 s8 l8);obtain ⟨q6,uf⟩:∃q6,q5+k6.ct=q6:=⟨_,rfl⟩
    rw [uf];have lu:Hid (k+(((((((Fp.app (.v (.string x0) .nil)).app (.s a1 n1 c1 k1 .nil)).app (.v (.int .i64 x2) .nil)).app (.v (.string x3) .nil)).app (.v (.bool x4) .nil)).app (.s a5 n5 c5 k5 .nil)).app (.s a6 n6 c6 k6 .nil)).ct=q6∧q5+k6.ct=q6):=⟨by have:=o8.out;(try simp only [Fo.aW,Fo.ct] at this ⊢);omega,uf⟩
    have Cj:Hid (k+(((((((Fp.app (.v (.string x0) .nil)).app (.s a1 n1 c1 k1 .nil)).app (.v (.int .i64 x2) .nil)).app (.v (.string x3) .nil)).app (.v (.bool x4) .nil)).app (.s a5 n5 c5 k5 .nil)).app (.s a6 n6 c6 k6 .nil)).ct=q6):=lu.out.1;have hv7:q6+0<=4294967296:=by have:=dm.out;have:=gN.out;have:=ig.out;have:=lu.out;omega
    clear b8 s8 l8 uf yD;have Md:Hid (∀w,Fo.av w (λc=>c < w.heap.size) (.s a7 n7 c7 k7 .nil)->(Fo.ah (.s a7 n7 c7 k7 .nil)).Nodup->Live w (Fo.ah (.s a7 n7 c7 k7 .nil))->Calls Tryz.prog 32 #[.slice a7 n7 c7,.int .i64 ((q6:Int))] w λe w'=>e=.returned (.int .i64 ((q6+k7.ct:Nat):Int))∧
      Fo.av w' (λc=>c < w.heap.size) (Fo.jC (.s a7 n7 c7 k7 .nil) (q6))∧Kept (λc=>c∉Fo.ah (.s a7 n7 c7 k7 .nil)) w w'∧Live w' (Fo.ah (.s a7 n7 c7 k7 .nil))):=λw h1 h2 h3=>by
     have e:((q6:Nat):Int)=(q6:Int):=by omega
     rw [<- e];exact lh k7 n7 a7 c7 (q6) w (by have:=HM.out;have:=fZ.out;omega) xR (by have:=dm.out;have:=Cj.out;omega) (by have:=dm.out;have:=Cj.out;have:=gN.out;have:=ig.out;have:=lu.out;omega) h1 h2 h3
    have Xj:w8.cell? ⟨b,o+i * 9+7,none⟩=some (.slice a7 n7 c7):=I8.out.at_ 0 _ rfl (by have:=hfp.out;(try simp only [Fo.aR,Fo.len]);omega);go_wp2_with fail;clear Xj;refine (Md.out w8 I8.out.sub.1 I8.out.sub.2.1 I8.out.sub.2.2).mono ?_;rintro e w9 ⟨rfl,s9,b9,l9⟩;have I9:=hide (I8.out.call (q:=q6) (by have:=Cj.out;(try simp only [Fo.aW,Fo.ct] at this ⊢);omega) b9 s9 l9);obtain ⟨q7,Gi⟩:∃q7,q6+k7.ct=q7:=⟨_,rfl⟩
    rw [Gi];have vX:Hid (k+((((((((Fp.app (.v (.string x0) .nil)).app (.s a1 n1 c1 k1 .nil)).app (.v (.int .i64 x2) .nil)).app (.v (.string x3) .nil)).app (.v (.bool x4) .nil)).app (.s a5 n5 c5 k5 .nil)).app (.s a6 n6 c6 k6 .nil)).app (.s a7 n7 c7 k7 .nil)).ct=q7∧q6+k7.ct=q7):=⟨by have:=Cj.out;(try simp only [Fo.aW,Fo.ct] at this ⊢);omega,Gi⟩
    have uT:Hid (k+((((((((Fp.app (.v (.string x0) .nil)).app (.s a1 n1 c1 k1 .nil)).app (.v (.int .i64 x2) .nil)).app (.v (.string x3) .nil)).app (.v (.bool x4) .nil)).app (.s a5 n5 c5 k5 .nil)).app (.s a6 n6 c6 k6 .nil)).app (.s a7 n7 c7 k7 .nil)).ct=q7):=vX.out.1;have hv8:q7+0<=4294967296:=by have:=dm.out;have:=gN.out;have:=ig.out;have:=lu.out;have:=vX.out;omega
    clear b9 s9 l9 Gi Md;have Me:Hid (∀w,Fo.av w (λc=>c < w.heap.size) (.s a8 n8 c8 k8 .nil)->(Fo.ah (.s a8 n8 c8 k8 .nil)).Nodup->Live w (Fo.ah (.s a8 n8 c8 k8 .nil))->Calls Tryz.prog 33 #[.slice a8 n8 c8,.int .i64 ((q7:Int))] w λe w'=>e=.returned (.int .i64 ((q7+k8.ct:Nat):Int))∧
      Fo.av w' (λc=>c < w.heap.size) (Fo.jC (.s a8 n8 c8 k8 .nil) (q7))∧Kept (λc=>c∉Fo.ah (.s a8 n8 c8 k8 .nil)) w w'∧Live w' (Fo.ah (.s a8 n8 c8 k8 .nil))):=λw h1 h2 h3=>by
     have e:((q7:Nat):Int)=(q7:Int):=by omega
     rw [<- e];exact gB k8 n8 a8 c8 (q7) w (by have:=HM.out;have:=fZ.out;omega) xS (by have:=dm.out;have:=uT.out;omega) (by have:=dm.out;have:=uT.out;have:=gN.out;have:=ig.out;have:=lu.out;have:=vX.out;omega) h1 h2 h3
    have Xk:w9.cell? ⟨b,o+i * 9+8,none⟩=some (.slice a8 n8 c8):=I9.out.at_ 0 _ rfl (by have:=hfp.out;(try simp only [Fo.aR,Fo.len]);omega);go_wp2_with fail;clear Xk;refine (Me.out w9 I9.out.sub.1 I9.out.sub.2.1 I9.out.sub.2.2).mono ?_;rintro e Ux ⟨rfl,s10,b10,l10⟩;have I10:=hide (I9.out.call (q:=q7) (by have:=uT.out;(try simp only [Fo.aW,Fo.ct] at this ⊢);omega) b10 s10 l10);obtain ⟨q8,hq8⟩:∃q8,q7+k8.ct=q8:=⟨_,rfl⟩
    rw [hq8];have Gj:Hid (k+(((((((((Fp.app (.v (.string x0) .nil)).app (.s a1 n1 c1 k1 .nil)).app (.v (.int .i64 x2) .nil)).app (.v (.string x3) .nil)).app (.v (.bool x4) .nil)).app (.s a5 n5 c5 k5 .nil)).app (.s a6 n6 c6 k6 .nil)).app (.s a7 n7 c7 k7 .nil)).app (.s a8 n8 c8 k8 .nil)).ct=q8∧q7+k8.ct=q8):=⟨by have:=uT.out;(try simp only [Fo.aW,Fo.ct] at this ⊢);omega,hq8⟩
    have HE8:Hid (k+(((((((((Fp.app (.v (.string x0) .nil)).app (.s a1 n1 c1 k1 .nil)).app (.v (.int .i64 x2) .nil)).app (.v (.string x3) .nil)).app (.v (.bool x4) .nil)).app (.s a5 n5 c5 k5 .nil)).app (.s a6 n6 c6 k6 .nil)).app (.s a7 n7 c7 k7 .nil)).app (.s a8 n8 c8 k8 .nil)).ct=q8):=Gj.out.1;have hv9:q8+0<=4294967296:=by have:=dm.out;have:=gN.out;have:=ig.out;have:=lu.out;have:=vX.out;have:=Gj.out;omega
    clear b10 s10 l10 hq8 Me;go_wp2_with fail;go_roundw
    case rel=>exact ⟨i+1,q8,rr,(((((((((Fp.app (.v (.string x0) .nil)).app (.s a1 n1 c1 k1 .nil)).app (.v (.int .i64 x2) .nil)).app (.v (.string x3) .nil)).app (.v (.bool x4) .nil)).app (.s a5 n5 c5 k5 .nil)).app (.s a6 n6 c6 k6 .nil)).app (.s a7 n7 c7 k7 .nil)).app (.s a8 n8 c8 k8 .nil)),rfl,by go_num,by omega,(by show _=_;have:=HE8.out;simp only [Fo.aW,Fo.ct] at this ⊢;omega),(by show _=_;have:=hfp.out;(try simp only [Fo.aR,Fo.len]);omega),HRR,I10⟩
    case measure=>simp [intOf];omega
   .have e1:=hR.out.done hi
    exact zz36
 .have e1:n=0:=by omega
  subst e1;obtain rfl:=ai hf;clear hfl;go_enter Tryz.func33,Tryz.ntmps33;exact zz24
theorem yE (m:Nat) (lh:xQ Tryz.prog E 32 (E 3) m) (gB:xQ Tryz.prog E 33 (E 2) m):xQ Tryz.prog E 32 (E 3) (m+1):=by
 intro F n a cap k W hm hf hk0 hk hs hnd hlv;have hmx:n<=9223372036854775807:=by have h2:=hs.1.1;have h3:=hs.1.2.1;simp only [maxLen] at h3;omega
 have hfl:F.len=n * 7:=by rw [Fit.len hf,dz];rfl
 by_cases hp:0 < n
 .have hl:0 < F.len:=by omega
  obtain ⟨b,o,rfl,-,-,-⟩:=hs.1.2.2 hl;have HI:=hide (iI.start (k0:=k) hl hs.1 (by simpa [Fo.ah] using hnd) (by simpa [Fo.ah] using hlv));have HL:=hide hl;have HF:=hide hf;have HM:=hide hm;have HK:=hide hk;have vW:=hide (And.intro hs.1.1 hs.1.2.1);clear hl hf hs hnd hlv hm hk hfl;go_enter Tryz.func32,Tryz.ntmps32;go_wp2_with fail
  go_loopw [1,5] (λs1 s5 wr=>∃(i q:Nat) (r Fp:Fo),s1=.int .i64 (q:Int)∧s5=.int .i64 i∧i<=n∧Hid (k+Fp.ct=q)∧Hid (Fp.len=i * 7)∧Hid (Fit E r (rep (E 3) (n - i)))∧Hid (iI b o F k W Fp r wr)) (λ_ s5 _=>n - (intOf s5).toNat)
  case atStart=>exact ⟨0,k,F,.nil,rfl,rfl,Nat.zero_le _,(by show _=_;simp [Fo.ct]),(by show _=_;simp [Fo.len]),HF,HI⟩
  case round=>
   obtain ⟨i,q,r,Fp,rfl,rfl,hin,hq,hfp,hR,hI⟩:=hrel
   by_cases hi:i < n
   .obtain ⟨x,rr,rfl,hx,hrr,-⟩:=hR.out.next hi
    have HRR:=hide hrr;have hii:(i:Int) < n:=by omega
    have hct:=congrArg Fo.ct hI.out.eq;have hsz:=congrArg Fo.size hI.out.eq;clear hR hrr;replace hx:Fit E x [.i,.t,.b,.s 0,.s 1,.s 3,.s 2]:=hx;obtain ⟨x0,F0,rfl,hx0,hx⟩:=eu hx;obtain ⟨x1,F1,rfl,hx1,hx⟩:=aU hx;obtain ⟨x2,F2,rfl,hx⟩:=dE hx;obtain ⟨a3,n3,c3,k3,F3,rfl,hf3,hx⟩:=ay hx;obtain ⟨a4,n4,c4,k4,F4,rfl,sQ,hx⟩:=ay hx;obtain ⟨a5,n5,c5,k5,F5,rfl,jg,hx⟩:=ay hx;obtain ⟨a6,n6,c6,k6,F6,rfl,jB,hx⟩:=ay hx;obtain rfl:=ai hx;have I0:Hid (iI b o F k W Fp (.v (.int .i64 x0) (.v (.string x1) (.v (.bool x2) (.s a3 n3 c3 k3 (.s a4 n4 c4 k4 (.s a5 n5 c5 k5 (.s a6 n6 c6 k6 rr))))))) wr):=hI;simp only [Fo.app,Fo.aW,Fo.ct] at hct;simp only [Fo.app,Fo.aM,Fo.size] at hsz;have hqk:0 < q∧q+(1+1+1+k3.ct+k4.ct+k5.ct+k6.ct)<=4294967296:=by have:=hq.out;have:=HK.out;omega
    have dm:=hide hqk;have hv0:q+3<=4294967296:=by omega
    have fZ:=hide hsz;clear hI hct hsz hqk;have om:Hid (∀w,Calls Tryz.prog 59 #[.int .i64 ((q:Int)+1)] w λe w'=>e=.returned (.string (mt (q+1)))∧Below w.heap.size w w'):=λw=>by
     have e:((q+1:Nat):Int)=(q:Int)+1:=by omega
     rw [<- e];exact jX (q+1) w (by have:=dm.out;have:=hq.out;omega) (by have:=dm.out;have:=hq.out;omega)
    have tO:wr.cell? ⟨b,o+i * 7,none⟩=some (.int .i64 x0):=I0.out.at_ 0 _ rfl (by have:=hfp.out;(try simp only [Fo.aR,Fo.len]);omega);have Td:=I0.out.free (o+i * 7);obtain ⟨V1,hV1⟩:∃V,(wr.setCell ⟨b,o+i * 7,none⟩ (.int .i64 ((q:Int))))=V:=⟨_,rfl⟩
    have I1:Hid (iI b o F k W (Fp.app (.v (.int .i64 x0) .nil)) (.v (.string x1) (.v (.bool x2) (.s a3 n3 c3 k3 (.s a4 n4 c4 k4 (.s a5 n5 c5 k5 (.s a6 n6 c6 k6 rr)))))) V1):=by
     exact zz110
    have gD:=hide hV1;clear hV1;go_wp2_with fail;rw [gD.out];clear tO Td;refine (om.out V1).mono ?_;rintro e w2 ⟨rfl,b2⟩;have I2:=hide (I1.out.below b2);clear b2 om;obtain ⟨g2,hg2⟩:∃g,decide ((q+2) % 3=0)=g:=⟨_,rfl⟩
    have HT2:((((q:Int)+1+1):Int).tmod 3==0)=g2:=by
     exact zz135
    have HU2:((((q:Int)+1+1):Int) % 3==0)=g2:=by rw [<- HT2,Int.tmod_eq_emod_of_nonneg (by omega)]
    have HG2:=hide hg2;clear hg2;have yB:Hid (∀w,Fo.av w (λc=>c < w.heap.size) (.s a3 n3 c3 k3 .nil)->(Fo.ah (.s a3 n3 c3 k3 .nil)).Nodup->Live w (Fo.ah (.s a3 n3 c3 k3 .nil))->Calls Tryz.prog 58 #[.slice a3 n3 c3,.int .i64 ((q:Int)+1+1+1)] w λe w'=>e=.returned (.int .i64 ((q+3+k3.ct:Nat):Int))∧
      Fo.av w' (λc=>c < w.heap.size) (Fo.jC (.s a3 n3 c3 k3 .nil) (q+3))∧Kept (λc=>c∉Fo.ah (.s a3 n3 c3 k3 .nil)) w w'∧Live w' (Fo.ah (.s a3 n3 c3 k3 .nil))):=λw h1 h2 h3=>by
     have e:((q+3:Nat):Int)=(q:Int)+1+1+1:=by omega
     rw [<- e];exact o7 m k3 n3 a3 c3 (q+3) w (by have:=HM.out;have:=fZ.out;omega) hf3 (by have:=dm.out;have:=hq.out;omega) (by have:=dm.out;have:=hq.out;omega) h1 h2 h3
    have Xl:w2.cell? ⟨b,o+i * 7+1,none⟩=some (.string x1):=I2.out.at_ 0 _ rfl (by have:=hfp.out;(try simp only [Fo.aR,Fo.len]);omega);have Xm:=I2.out.free (o+i * 7+1);have Te:w2.cell? ⟨b,o+i * 7+2,none⟩=some (.bool x2):=I2.out.at_ 1 _ rfl (by have:=hfp.out;(try simp only [Fo.aR,Fo.len]);omega);have Xn:=I2.out.free (o+i * 7+2);have Jh:w2.cell? ⟨b,o+i * 7+3,none⟩=some (.slice a3 n3 c3):=I2.out.at_ 2 _ rfl (by have:=hfp.out;(try simp only [Fo.aR,Fo.len]);omega);obtain ⟨V3,pI⟩:∃V,((w2.setCell ⟨b,o+i * 7+1,none⟩ (.string (mt (q+1)))).setCell ⟨b,o+i * 7+2,none⟩ (.bool g2))=V:=⟨_,rfl⟩
    have I3:Hid (iI b o F k W (((Fp.app (.v (.int .i64 x0) .nil)).app (.v (.string x1) .nil)).app (.v (.bool x2) .nil)) (.s a3 n3 c3 k3 (.s a4 n4 c4 k4 (.s a5 n5 c5 k5 (.s a6 n6 c6 k6 rr)))) V3):=by
     rw [<- pI];exact ((I2.out.set (q:=q+1) (by have:=hfp.out;(try simp only [Fo.aR,Fo.len]);omega) (by have:=hq.out;(try simp only [Fo.aW,Fo.ct] at this ⊢);omega) (by first | rfl | (simp only [mkV];congr 1;omega))).set (q:=q+2) (by have:=hfp.out;(try simp only [Fo.aR,Fo.len]);omega) (by have:=hq.out;(try simp only [Fo.aW,Fo.ct] at this ⊢);omega) (by first | rfl | (simp only [mkV];congr 1;omega) | (simp only [mkV];rw [HG2.out])))
    have Gl:=hide pI;clear pI;go_wp2_with fail;rw [Gl.out];clear Xl Te Xm Xn Jh;refine (yB.out V3 I3.out.sub.1 I3.out.sub.2.1 I3.out.sub.2.2).mono ?_;rintro e w4 ⟨rfl,s4,b4,l4⟩;have I4:=hide (I3.out.call (q:=q+3) (by have:=hq.out;(try simp only [Fo.aW,Fo.ct] at this ⊢);omega) b4 s4 l4);obtain ⟨q3,hq3⟩:∃q3,q+3+k3.ct=q3:=⟨_,rfl⟩
    rw [hq3];have jh:Hid (k+((((Fp.app (.v (.int .i64 x0) .nil)).app (.v (.string x1) .nil)).app (.v (.bool x2) .nil)).app (.s a3 n3 c3 k3 .nil)).ct=q3∧q+3+k3.ct=q3):=⟨by have:=hq.out;(try simp only [Fo.aW,Fo.ct] at this ⊢);omega,hq3⟩
    have Gm:Hid (k+((((Fp.app (.v (.int .i64 x0) .nil)).app (.v (.string x1) .nil)).app (.v (.bool x2) .nil)).app (.s a3 n3 c3 k3 .nil)).ct=q3):=jh.out.1;have hv4:q3+0<=4294967296:=by have:=dm.out;have:=jh.out;omega
    clear b4 s4 l4 hq3 yB;have Mf:Hid (∀w,Fo.av w (λc=>c < w.heap.size) (.s a4 n4 c4 k4 .nil)->(Fo.ah (.s a4 n4 c4 k4 .nil)).Nodup->Live w (Fo.ah (.s a4 n4 c4 k4 .nil))->Calls Tryz.prog 31 #[.slice a4 n4 c4,.int .i64 ((q3:Int))] w λe w'=>e=.returned (.int .i64 ((q3+k4.ct:Nat):Int))∧
      Fo.av w' (λc=>c < w.heap.size) (Fo.jC (.s a4 n4 c4 k4 .nil) (q3))∧Kept (λc=>c∉Fo.ah (.s a4 n4 c4 k4 .nil)) w w'∧Live w' (Fo.ah (.s a4 n4 c4 k4 .nil))):=λw h1 h2 h3=>by
     have e:((q3:Nat):Int)=(q3:Int):=by omega
     rw [<- e];exact lT m k4 n4 a4 c4 (q3) w (by have:=HM.out;have:=fZ.out;omega) sQ (by have:=dm.out;have:=Gm.out;omega) (by have:=dm.out;have:=Gm.out;have:=jh.out;omega) h1 h2 h3
    have Xo:w4.cell? ⟨b,o+i * 7+4,none⟩=some (.slice a4 n4 c4):=I4.out.at_ 0 _ rfl (by have:=hfp.out;(try simp only [Fo.aR,Fo.len]);omega);go_wp2_with fail;clear Xo;refine (Mf.out w4 I4.out.sub.1 I4.out.sub.2.1 I4.out.sub.2.2).mono ?_;rintro e w5 ⟨rfl,s5,b5,l5⟩;have I5:=hide (I4.out.call (q:=q3) (by have:=Gm.out;(try simp only [Fo.aW,Fo.ct] at this ⊢);omega) b5 s5 l5);obtain ⟨q4,hq4⟩:∃q4,q3+k4.ct=q4:=⟨_,rfl⟩
    rw [hq4];have mX:Hid (k+(((((Fp.app (.v (.int .i64 x0) .nil)).app (.v (.string x1) .nil)).app (.v (.bool x2) .nil)).app (.s a3 n3 c3 k3 .nil)).app (.s a4 n4 c4 k4 .nil)).ct=q4∧q3+k4.ct=q4):=⟨by have:=Gm.out;(try simp only [Fo.aW,Fo.ct] at this ⊢);omega,hq4⟩
    have Qs:Hid (k+(((((Fp.app (.v (.int .i64 x0) .nil)).app (.v (.string x1) .nil)).app (.v (.bool x2) .nil)).app (.s a3 n3 c3 k3 .nil)).app (.s a4 n4 c4 k4 .nil)).ct=q4):=mX.out.1;have hv5:q4+0<=4294967296:=by have:=dm.out;have:=jh.out;have:=mX.out;omega
    clear b5 s5 l5 hq4 Mf;have yC:Hid (∀w,Fo.av w (λc=>c < w.heap.size) (.s a5 n5 c5 k5 .nil)->(Fo.ah (.s a5 n5 c5 k5 .nil)).Nodup->Live w (Fo.ah (.s a5 n5 c5 k5 .nil))->Calls Tryz.prog 32 #[.slice a5 n5 c5,.int .i64 ((q4:Int))] w λe w'=>e=.returned (.int .i64 ((q4+k5.ct:Nat):Int))∧
      Fo.av w' (λc=>c < w.heap.size) (Fo.jC (.s a5 n5 c5 k5 .nil) (q4))∧Kept (λc=>c∉Fo.ah (.s a5 n5 c5 k5 .nil)) w w'∧Live w' (Fo.ah (.s a5 n5 c5 k5 .nil))):=λw h1 h2 h3=>by
     have e:((q4:Nat):Int)=(q4:Int):=by omega
     rw [<- e];exact lh k5 n5 a5 c5 (q4) w (by have:=HM.out;have:=fZ.out;omega) jg (by have:=dm.out;have:=Qs.out;omega) (by have:=dm.out;have:=Qs.out;have:=jh.out;have:=mX.out;omega) h1 h2 h3
    have Mc:w5.cell? ⟨b,o+i * 7+5,none⟩=some (.slice a5 n5 c5):=I5.out.at_ 0 _ rfl (by have:=hfp.out;(try simp only [Fo.aR,Fo.len]);omega);go_wp2_with fail;clear Mc;refine (yC.out w5 I5.out.sub.1 I5.out.sub.2.1 I5.out.sub.2.2).mono ?_;rintro e w6 ⟨rfl,s6,b6,l6⟩;have I6:=hide (I5.out.call (q:=q4) (by have:=Qs.out;(try simp only [Fo.aW,Fo.ct] at this ⊢);omega) b6 s6 l6);obtain ⟨q5,tZ⟩:∃q5,q4+k5.ct=q5:=⟨_,rfl⟩
    rw [tZ];have ig:Hid (k+((((((Fp.app (.v (.int .i64 x0) .nil)).app (.v (.string x1) .nil)).app (.v (.bool x2) .nil)).app (.s a3 n3 c3 k3 .nil)).app (.s a4 n4 c4 k4 .nil)).app (.s a5 n5 c5 k5 .nil)).ct=q5∧q4+k5.ct=q5):=⟨by have:=Qs.out;(try simp only [Fo.aW,Fo.ct] at this ⊢);omega,tZ⟩
    have o8:Hid (k+((((((Fp.app (.v (.int .i64 x0) .nil)).app (.v (.string x1) .nil)).app (.v (.bool x2) .nil)).app (.s a3 n3 c3 k3 .nil)).app (.s a4 n4 c4 k4 .nil)).app (.s a5 n5 c5 k5 .nil)).ct=q5):=ig.out.1;have hv6:q5+0<=4294967296:=by have:=dm.out;have:=jh.out;have:=mX.out;have:=ig.out;omega
    clear b6 s6 l6 tZ yC;have yD:Hid (∀w,Fo.av w (λc=>c < w.heap.size) (.s a6 n6 c6 k6 .nil)->(Fo.ah (.s a6 n6 c6 k6 .nil)).Nodup->Live w (Fo.ah (.s a6 n6 c6 k6 .nil))->Calls Tryz.prog 33 #[.slice a6 n6 c6,.int .i64 ((q5:Int))] w λe w'=>e=.returned (.int .i64 ((q5+k6.ct:Nat):Int))∧
      Fo.av w' (λc=>c < w.heap.size) (Fo.jC (.s a6 n6 c6 k6 .nil) (q5))∧Kept (λc=>c∉Fo.ah (.s a6 n6 c6 k6 .nil)) w w'∧Live w' (Fo.ah (.s a6 n6 c6 k6 .nil))):=λw h1 h2 h3=>by
     have e:((q5:Nat):Int)=(q5:Int):=by omega
     rw [<- e];exact gB k6 n6 a6 c6 (q5) w (by have:=HM.out;have:=fZ.out;omega) jB (by have:=dm.out;have:=o8.out;omega) (by have:=dm.out;have:=o8.out;have:=jh.out;have:=mX.out;have:=ig.out;omega) h1 h2 h3
    have Xp:w6.cell? ⟨b,o+i * 7+6,none⟩=some (.slice a6 n6 c6):=I6.out.at_ 0 _ rfl (by have:=hfp.out;(try simp only [Fo.aR,Fo.len]);omega);go_wp2_with fail;clear Xp;refine (yD.out w6 I6.out.sub.1 I6.out.sub.2.1 I6.out.sub.2.2).mono ?_;rintro e w7 ⟨rfl,s7,b7,l7⟩;have I7:=hide (I6.out.call (q:=q5) (by have:=o8.out;(try simp only [Fo.aW,Fo.ct] at this ⊢);omega) b7 s7 l7);obtain ⟨q6,uf⟩:∃q6,q5+k6.ct=q6:=⟨_,rfl⟩
    rw [uf];have lu:Hid (k+(((((((Fp.app (.v (.int .i64 x0) .nil)).app (.v (.string x1) .nil)).app (.v (.bool x2) .nil)).app (.s a3 n3 c3 k3 .nil)).app (.s a4 n4 c4 k4 .nil)).app (.s a5 n5 c5 k5 .nil)).app (.s a6 n6 c6 k6 .nil)).ct=q6∧q5+k6.ct=q6):=⟨by have:=o8.out;(try simp only [Fo.aW,Fo.ct] at this ⊢);omega,uf⟩
    have Cj:Hid (k+(((((((Fp.app (.v (.int .i64 x0) .nil)).app (.v (.string x1) .nil)).app (.v (.bool x2) .nil)).app (.s a3 n3 c3 k3 .nil)).app (.s a4 n4 c4 k4 .nil)).app (.s a5 n5 c5 k5 .nil)).app (.s a6 n6 c6 k6 .nil)).ct=q6):=lu.out.1;have hv7:q6+0<=4294967296:=by have:=dm.out;have:=jh.out;have:=mX.out;have:=ig.out;have:=lu.out;omega
    clear b7 s7 l7 uf yD;go_wp2_with fail;go_roundw
    case rel=>exact ⟨i+1,q6,rr,(((((((Fp.app (.v (.int .i64 x0) .nil)).app (.v (.string x1) .nil)).app (.v (.bool x2) .nil)).app (.s a3 n3 c3 k3 .nil)).app (.s a4 n4 c4 k4 .nil)).app (.s a5 n5 c5 k5 .nil)).app (.s a6 n6 c6 k6 .nil)),rfl,by go_num,by omega,(by show _=_;have:=Cj.out;simp only [Fo.aW,Fo.ct] at this ⊢;omega),(by show _=_;have:=hfp.out;(try simp only [Fo.aR,Fo.len]);omega),HRR,I7⟩
    case measure=>simp [intOf];omega
   .have e1:=hR.out.done hi
    exact zz36
 .have e1:n=0:=by omega
  subst e1;obtain rfl:=ai hf;clear hfl;go_enter Tryz.func32,Tryz.ntmps32;exact zz24
theorem fI:∀m:Nat,xQ Tryz.prog E 33 (E 2) m∧xQ Tryz.prog E 32 (E 3) m
 | 0=>⟨λ_ _ _ _ _ _ hm=>absurd hm (Nat.not_lt_zero _),λ_ _ _ _ _ _ hm=>absurd hm (Nat.not_lt_zero _)⟩
 | m+1=>⟨uS m (fI m).2 (fI m).1,yE m (fI m).2 (fI m).1⟩
theorem yF (m:Nat):xQ Tryz.prog E 33 (E 2) m:=(fI m).1
theorem D5 (m:Nat):xQ Tryz.prog E 32 (E 3) m:=(fI m).2
theorem yG (m:Nat):Xq Tryz.prog E 9 (E 3) m:=by
 intro F k W hm hf hk0 hk hs hnd hlv;have HI:=hide (ji.start (k0:=k) hs hnd hlv);clear hs hnd hlv;replace hf:Fit E F [.i,.t,.b,.s 0,.s 1,.s 3,.s 2]:=hf;obtain ⟨x0,F0,rfl,hx0,hf⟩:=eu hf;obtain ⟨x1,F1,rfl,hx1,hf⟩:=aU hf;obtain ⟨x2,F2,rfl,hf⟩:=dE hf;obtain ⟨a3,n3,c3,k3,F3,rfl,hf3,hf⟩:=ay hf;obtain ⟨a4,n4,c4,k4,F4,rfl,sQ,hf⟩:=ay hf;obtain ⟨a5,n5,c5,k5,F5,rfl,jg,hf⟩:=ay hf;obtain ⟨a6,n6,c6,k6,F6,rfl,jB,hf⟩:=ay hf;obtain rfl:=ai hf;simp only [Fo.size] at hm;simp only [Fo.bZ] at hk ⊢;simp only [Fo.vals];have HK:=hide hk;clear hk;have gP:=hide (below_alloc1 W (.cells #[.int .i64 x0,.string x1,.bool x2,.slice a3 n3 c3,.slice a4 n4 c4,.slice a5 n5 c5,.slice a6 n6 c6] 35));have Q0:=hide (Bx.new W [.int .i64 x0,.string x1,.bool x2,.slice a3 n3 c3,.slice a4 n4 c4,.slice a5 n5 c5,.slice a6 n6 c6] 35);have I0:=hide (HI.out.below gP.out)
 obtain ⟨w0,hw0⟩:∃V,W.alloc (.cells #[.int .i64 x0,.string x1,.bool x2,.slice a3 n3 c3,.slice a4 n4 c4,.slice a5 n5 c5,.slice a6 n6 c6] 35)=V:=⟨_,rfl⟩
 rw [hw0] at Q0 I0 gP;have Gn:=hide hw0;clear hw0 HI;go_enter Tryz.func9,Tryz.ntmps9;have hq:Hid (k+Fo.bZ .nil=k):=rfl;have D6:=hide (I0.out.skip);have D7:Hid (k+((Fo.nil).app (.v (.int .i64 x0) .nil)).bZ=k):=by
  have:=hq.out
  show _=_;simp only [Fo.gF,Fo.bZ] at this ⊢;omega
 have Mg:=hide (D6.out.skip);have Mh:Hid (k+(((Fo.nil).app (.v (.int .i64 x0) .nil)).app (.v (.string x1) .nil)).bZ=k):=by
  have:=D7.out
  show _=_;simp only [Fo.gF,Fo.bZ] at this ⊢;omega
 go_wp2_with fail;rw [Gn.out];have hb1:k+Fo.bZ (.v (.bool x2) (.s a3 n3 c3 k3 .nil))<=4294967296:=by have:=HK.out;have:=Mh.out;simp only [Fo.gF,Fo.bZ] at this ⊢;omega
 have S1:=ji.sub (X:=(.v (.bool x2) (.s a3 n3 c3 k3 .nil))) Mg.out;have fQ:=Kl (Fo.size (.v (.bool x2) (.s a3 n3 c3 k3 .nil))+1) (.v (.bool x2) (.s a3 n3 c3 k3 .nil)) k w0 (Nat.lt_succ_self _) ⟨hf3,trivial⟩ (by  omega) hb1 S1.1 S1.2.1 S1.2.2;simp only [Fo.vals] at fQ;refine fQ.mono ?_;clear fQ S1;rintro e w1 ⟨rfl,s1,b1,l1⟩;have I1:=hide (ji.call (X:=(.v (.bool x2) (.s a3 n3 c3 k3 .nil))) Mg.out Mh.out b1 s1 l1);obtain ⟨q1,hq1⟩:∃q1,k+Fo.bZ (.v (.bool x2) (.s a3 n3 c3 k3 .nil))=q1:=⟨_,rfl⟩
 rw [hq1];have Q1:=hide (Q0.out.kept b1 (ji.away (X:=(.v (.bool x2) (.s a3 n3 c3 k3 .nil))) Mg.out (Nat.le_refl _)));have dZ:Hid (k+(k3.ct+0)=q1):=by
  have:=hq1
  show _=_;simp only [Fo.bZ] at this;omega
 have Ji:Hid (k+((((Fo.nil).app (.v (.int .i64 x0) .nil)).app (.v (.string x1) .nil)).app (.v (.bool x2) (.s a3 n3 c3 k3 .nil))).bZ=q1):=by
  have:=Mh.out
  have:=dZ.out
  show _=_;simp only [Fo.gF,Fo.bZ] at *;omega
 clear b1 s1 l1 hq1 hb1;have Gq:w1.cell? ⟨W.heap.size,4,none⟩=some (.slice a4 n4 c4):=Q1.out.ae 4 _ rfl;have Gs:w1.cell? ⟨W.heap.size,5,none⟩=some (.slice a5 n5 c5):=Q1.out.ae 5 _ rfl;have Gt:w1.cell? ⟨W.heap.size,6,none⟩=some (.slice a6 n6 c6):=Q1.out.ae 6 _ rfl;go_wp2_with fail;have hb2:q1+Fo.bZ (.s a4 n4 c4 k4 .nil)<=4294967296:=by have:=HK.out;have:=Ji.out;simp only [Fo.gF,Fo.bZ] at this ⊢;have:=dZ.out;omega
 have S2:=ji.sub (X:=(.s a4 n4 c4 k4 .nil)) I1.out;have iJ:=lT (k4.size+1) k4 n4 a4 c4 q1 w1 (Nat.lt_succ_self _) sQ (by have:=dZ.out;omega) (by simp only [Fo.bZ] at hb2;omega) S2.1 S2.2.1 S2.2.2;refine iJ.mono ?_;clear iJ S2;rintro e w2 ⟨rfl,s2,b2,l2⟩;have I2:=hide (ji.call (X:=(.s a4 n4 c4 k4 .nil)) I1.out Ji.out b2 s2 l2);obtain ⟨q2,hq2⟩:∃q2,q1+k4.ct=q2:=⟨_,rfl⟩
 rw [hq2];have Q2:=hide (Q1.out.kept b2 (ji.away (X:=(.s a4 n4 c4 k4 .nil)) I1.out (Nat.le_refl _)));have jE:Hid (q1+k4.ct=q2):=by
  have:=hq2
  show _=_
  skip
  omega
 have Mi:Hid (k+(((((Fo.nil).app (.v (.int .i64 x0) .nil)).app (.v (.string x1) .nil)).app (.v (.bool x2) (.s a3 n3 c3 k3 .nil))).app (.s a4 n4 c4 k4 .nil)).bZ=q2):=by
  have:=Ji.out
  have:=jE.out
  show _=_;simp only [Fo.gF,Fo.bZ] at *;omega
 clear b2 s2 l2 hq2 hb2;have y25:w2.cell? ⟨W.heap.size,5,none⟩=some (.slice a5 n5 c5):=Q2.out.ae 5 _ rfl;have Qt:w2.cell? ⟨W.heap.size,6,none⟩=some (.slice a6 n6 c6):=Q2.out.ae 6 _ rfl;go_wp2_with fail;have hb3:q2+Fo.bZ (.s a5 n5 c5 k5 .nil)<=4294967296:=by have:=HK.out;have:=Mi.out;simp only [Fo.gF,Fo.bZ] at this ⊢;have:=dZ.out;have:=jE.out;omega
 have S3:=ji.sub (X:=(.s a5 n5 c5 k5 .nil)) I2.out;have mK:=D5 (k5.size+1) k5 n5 a5 c5 q2 w2 (Nat.lt_succ_self _) jg (by have:=dZ.out;have:=jE.out;omega) (by simp only [Fo.bZ] at hb3;omega) S3.1 S3.2.1 S3.2.2;refine mK.mono ?_;clear mK S3;rintro e w3 ⟨rfl,s3,b3,l3⟩;have I3:=hide (ji.call (X:=(.s a5 n5 c5 k5 .nil)) I2.out Mi.out b3 s3 l3);obtain ⟨q3,hq3⟩:∃q3,q2+k5.ct=q3:=⟨_,rfl⟩
 rw [hq3];have Q3:=hide (Q2.out.kept b3 (ji.away (X:=(.s a5 n5 c5 k5 .nil)) I2.out (Nat.le_refl _)));have ou:Hid (q2+k5.ct=q3):=by
  have:=hq3
  show _=_
  skip
  omega
 have Mj:Hid (k+((((((Fo.nil).app (.v (.int .i64 x0) .nil)).app (.v (.string x1) .nil)).app (.v (.bool x2) (.s a3 n3 c3 k3 .nil))).app (.s a4 n4 c4 k4 .nil)).app (.s a5 n5 c5 k5 .nil)).bZ=q3):=by
  have:=Mi.out
  have:=ou.out
  show _=_;simp only [Fo.gF,Fo.bZ] at *;omega
 clear b3 s3 l3 hq3 hb3;have Qu:w3.cell? ⟨W.heap.size,6,none⟩=some (.slice a6 n6 c6):=Q3.out.ae 6 _ rfl;go_wp2_with fail;have hb4:q3+Fo.bZ (.s a6 n6 c6 k6 .nil)<=4294967296:=by have:=HK.out;have:=Mj.out;simp only [Fo.gF,Fo.bZ] at this ⊢;have:=dZ.out;have:=jE.out;have:=ou.out;omega
 have S4:=ji.sub (X:=(.s a6 n6 c6 k6 .nil)) I3.out;have uU:=yF (k6.size+1) k6 n6 a6 c6 q3 w3 (Nat.lt_succ_self _) jB (by have:=dZ.out;have:=jE.out;have:=ou.out;omega) (by simp only [Fo.bZ] at hb4;omega) S4.1 S4.2.1 S4.2.2;refine uU.mono ?_;clear uU S4;rintro e w4 ⟨rfl,s4,b4,l4⟩;have I4:=hide (ji.call (X:=(.s a6 n6 c6 k6 .nil)) I3.out Mj.out b4 s4 l4);obtain ⟨q4,hq4⟩:∃q4,q3+k6.ct=q4:=⟨_,rfl⟩
 rw [hq4];have Q4:=hide (Q3.out.kept b4 (ji.away (X:=(.s a6 n6 c6 k6 .nil)) I3.out (Nat.le_refl _)));have Gu:Hid (q3+k6.ct=q4):=by
  have:=hq4
  show _=_
  skip
  omega
 have aa9:Hid (k+(((((((Fo.nil).app (.v (.int .i64 x0) .nil)).app (.v (.string x1) .nil)).app (.v (.bool x2) (.s a3 n3 c3 k3 .nil))).app (.s a4 n4 c4 k4 .nil)).app (.s a5 n5 c5 k5 .nil)).app (.s a6 n6 c6 k6 .nil)).bZ=q4):=by
  have:=Mj.out
  have:=Gu.out
  show _=_;simp only [Fo.gF,Fo.bZ] at *;omega
 clear b4 s4 l4 hq4 hb4;have h1:=hide (I4.out.finish);go_wp2_with fail;go_ret;exact ⟨gH (by have:=dZ.out;have:=jE.out;have:=ou.out;have:=Gu.out;omega),h1.out.1,h1.out.2.1,h1.out.2.2⟩
end Go.Proofs.YthfnobboalhihaaGreat
