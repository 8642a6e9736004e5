import Derived.Test.YthfnobboalhihaaGreatDi
set_option maxHeartbeats 2000000
set_option maxRecDepth 100000
namespace Go.Proofs.YthfnobboalhihaaGreat
open Go.RowKit Go.Joins
theorem zz131 {P:Prop} (h:P:=by
 clear HQ;clear hq hr el es en aD aC hc hc0 hB hl hn hal hnz hb hb0 hnm iy;go_enter Tryz.func177,Tryz.ntmps177;go_wp2_with fail;go_ret;exact ⟨by rw [HF.out];rfl,HB.out⟩):P:=h
theorem zz145 {P:Prop} (h:P:=by
 by_cases h:¬ns=[]∧bC ns
 .exact ⟨true,by simp only [true_iff];exact h⟩
 .exact ⟨false,by simp only [Bool.false_eq_true,false_iff];exact h⟩):P:=h
theorem zz184 {P:Prop} (h:P:=by
 exact ⟨h1.le,h1.mx,λhl=>by obtain ⟨b,o,e,s,c⟩:=h1.at_ hl;exact ⟨b,o,e,Nat.lt_of_lt_of_le s hB.size,c⟩⟩):P:=h
end Go.Proofs.YthfnobboalhihaaGreat
namespace Go.Proofs.YthfnobboalhihaaGreat.C
open Go.RowKit Go.Joins
theorem Wc.below {d:Nd} {k:Int} {nm:ByteArray} {mn:Bool} {la na ka aa:Option Addr} {lc nc kn kc an ac:Nat} {lm:List Int} {ns:List ByteArray} {al:Tm} {W V:World} (h:Wc d k nm mn la na ka aa lc nc kn kc an ac lm ns al W) (hB:Below W.heap.size W V):Wc d k nm mn la na ka aa lc nc kn kc an ac lm ns al V:=by
 obtain ⟨hc,hb,hl,hn,hmx,hnz,hkn,ed,hal,hnm⟩:=h;refine ⟨hc.below hB hb,Nat.lt_of_lt_of_le hb hB.size,?_,?_,hmx,hnz,hkn,ed,hal,hnm⟩
 .have h1:=hl.below hB (λb hb=>hb)
  exact zz184
 .have h1:=hn.below hB (λb hb=>hb)
  exact zz184
theorem lg2 (P B:Prop) (e qb:Bool) (n4 kn an:Nat) (en:e=true↔P) (hb:qb=true↔B):(an=0∧n4=0∧P∧kn=0∧¬B)↔((!qb) && (!(!e) && !decide (0 < n4) && !decide (0 < kn) && !decide (0 < an)))=true:=by
 cases e <;> cases qb <;> simp at en hb <;> simp [en,hb] <;> omega
theorem lg6 (P S B:Prop) (e m bn:Bool) (n3 an kn:Nat) (en:e=true↔P) (hb:bn=true↔(¬S∧B)):(n3=0∧m=false∧an=0∧P∧kn=1∧¬S∧B)↔((decide ((kn:Int)=1) && bn) && (!(!e) && !(m || decide (0 < n3)) && !decide (0 < an)))=true:=by
 rw [<- hb]
 cases e <;> cases m <;> cases bn <;> simp at en <;> simp [en] <;> omega
theorem lg7 (P S B:Prop) (e m bn:Bool) (n3 n4 an kn:Nat) (en:e=true↔P) (hb:bn=true↔(¬S∧B)):(n3=0∧m=false∧an=0∧P∧¬S∧kn=n4+1∧B)↔((decide ((kn:Int)=n4+1) && bn) && (!(!e) && !(m || decide (0 < n3)) && !decide (0 < an)))=true:=by
 have h:(n3=0∧m=false∧an=0∧P∧¬S∧kn=n4+1∧B)↔(n3=0∧m=false∧an=0∧P∧kn=n4+1∧(¬S∧B)):=⟨λ⟨a,b,c,d,e,f,g⟩=>⟨a,b,c,d,f,e,g⟩,λ⟨a,b,c,d,e,f,g⟩=>⟨a,b,c,d,f,e,g⟩⟩
 rw [h,<- hb]
 cases e <;> cases m <;> cases bn <;> simp at en <;> simp [en] <;> omega
theorem lg9 (m:Bool) (p:Int) (n3 n4 an kn:Nat):(n3=0∧m=false∧an=0∧n4=0∧0 < p∧(kn:Int)=p)↔((decide ((0:Int) < kn) && decide ((kn:Int)=p)) && (!(m || decide (0 < n3)) && !decide (0 < n4) && !decide (0 < an)))=true:=by
 cases m <;> simp <;> omega
theorem w_2 (d:Nd) (au:ByteArray) (cs:List ByteArray) (nm:ByteArray) (mn:Bool) (la na ka aa:Option Addr) (lc nc kn kc an ac:Nat) (lm:List Int) (ns:List ByteArray) (al:Tm) (W:World) (hh:Wc d 2 nm mn la na ka aa lc nc kn kc an ac lm ns al W) (q:Bool) (hq:q=true↔fA ⟨au,cs,2,nm,mn,lm,ns⟩ kn al):
  Calls Tryz.prog 157 #[.agg #[d.ptr]] W λe W'=>e=.returned (.bool q)∧Below W.heap.size W W':=by
 obtain ⟨hc,hb,hl,hn,hmx,hnz,hkn,ed,hal,hnm⟩:=hh;rw [Ck] at hq;obtain ⟨n3,aD⟩:∃n,n=lm.length:=⟨_,rfl⟩
 obtain ⟨n4,aC⟩:∃n,n=ns.length:=⟨_,rfl⟩
 have el:lm=[]↔n3=0:=by rw [aD];exact List.length_eq_zero_iff.symm
 have es:ns=[]↔n4=0:=by rw [aC];exact List.length_eq_zero_iff.symm
 have en:=kH nm;have hx1:nm.size<=9223372036854775807:=hnm;have hx3:n3<=16777216:=by omega
 have hx4:n4<=16777216:=by omega
 simp only [Nd.ptr];have hB:=below_alloc1 W (.cells #[.pointer (some ⟨d.b,d.o,none⟩)] 119);have hc0:=hc.below hB hb;have hb0:=Nat.lt_of_lt_of_le hb hB.size;rw [<- aD,<- aC] at hc0;obtain ⟨r,hr⟩:∃r,r=only 2 (!nm.toList.isEmpty) (mn || decide (0 < n3)) (decide (0 < n4)) (decide (0 < kn)) (decide (0 < an)):=⟨_,rfl⟩
 have HO:=hide (λV (b:Below (W.alloc (.cells #[.pointer (some ⟨d.b,d.o,none⟩)] 119)).heap.size (W.alloc (.cells #[.pointer (some ⟨d.b,d.o,none⟩)] 119)) V)=>lV 2 d 2 nm mn la na ka aa n3 lc n4 nc kn kc an ac V (hc0.below b hb0) (Nat.lt_of_lt_of_le hb0 b.size) r hr);simp only [Nd.ptr] at HO;have c1:=hc0 1 _ rfl;have c2:=hc0 2 _ rfl;have c3:=hc0 3 _ rfl;have c4:=hc0 4 _ rfl;have c5:=hc0 5 _ rfl;have c6:=hc0 6 _ rfl;have HB:=hide hB;rw [QD] at hr;obtain ⟨qb,MO⟩:∃qb:Bool,qb=true↔iL mn lm:=by
  exact zz106
 have HG:=hide (UQ mn la lc lm _ W.heap.size hB.size (hl.below hB (λb hb=>hb)) qb MO);rw [<- aD] at HG;have iy:q=(!qb && r):=Bool.eq_iff_iff.2 (hq.trans (by rw [hr,hal,es];exact lg2 _ _ _ _ _ _ _ en MO));have HQ:=hide iy;clear MO;clear hq hr el es en aD aC hc hc0 hB hl hn hal hnz hb hb0 hnm iy
 cases qb with
 | true=>
  go_enter Tryz.func157,Tryz.ntmps157;go_wp2_with (refine HG.out.mono ?_;rintro e w1 ⟨rfl,b1⟩);go_ret;exact ⟨by rw [HQ.out];rfl,HB.out.trans (b1.mono HB.out.size)⟩
 | false=>
  go_enter Tryz.func157,Tryz.ntmps157;go_wp2_with (first | (refine HG.out.mono ?_;rintro e w1 ⟨rfl,b1⟩;have XF:=(b1.cell (p:=⟨W.heap.size,0,none⟩) (by simp)).trans (show _=some (.pointer (some ⟨d.b,d.o,none⟩)) by simp)) | (refine (HO.out _ b1).mono ?_;rintro e w2 ⟨rfl,b2⟩));go_ret;exact ⟨by rw [HQ.out];rfl,HB.out.trans ((b1.trans (b2.mono b1.size)).mono HB.out.size)⟩
theorem XG (d:Nd) (au:ByteArray) (cs:List ByteArray) (nm:ByteArray) (mn:Bool) (la na ka aa:Option Addr) (lc nc kn kc an ac:Nat) (lm:List Int) (ns:List ByteArray) (al:Tm) (W:World) (hh:Wc d 10 nm mn la na ka aa lc nc kn kc an ac lm ns al W) (q:Bool) (hq:q=true↔fA ⟨au,cs,10,nm,mn,lm,ns⟩ kn al):
  Calls Tryz.prog 177 #[.agg #[d.ptr]] W λe W'=>e=.returned (.bool q)∧Below W.heap.size W W':=by
 obtain ⟨hc,hb,hl,hn,hmx,hnz,hkn,ed,hal,hnm⟩:=hh;rw [Jv] at hq;obtain ⟨n3,aD⟩:∃n,n=lm.length:=⟨_,rfl⟩
 obtain ⟨n4,aC⟩:∃n,n=ns.length:=⟨_,rfl⟩
 have el:lm=[]↔n3=0:=by rw [aD];exact List.length_eq_zero_iff.symm
 have es:ns=[]↔n4=0:=by rw [aC];exact List.length_eq_zero_iff.symm
 have en:=kH nm;have hx1:nm.size<=9223372036854775807:=hnm;have hx3:n3<=16777216:=by omega
 have hx4:n4<=16777216:=by omega
 simp only [Nd.ptr];have hB:=below_alloc1 W (.cells #[.pointer (some ⟨d.b,d.o,none⟩)] 127);have hc0:=hc.below hB hb;have hb0:=Nat.lt_of_lt_of_le hb hB.size;rw [<- aD,<- aC] at hc0;obtain ⟨r,hr⟩:∃r,r=only 1 (!nm.toList.isEmpty) (mn || decide (0 < n3)) (decide (0 < n4)) (decide (0 < kn)) (decide (0 < an)):=⟨_,rfl⟩
 have HO:=hide (λV (b:Below (W.alloc (.cells #[.pointer (some ⟨d.b,d.o,none⟩)] 127)).heap.size (W.alloc (.cells #[.pointer (some ⟨d.b,d.o,none⟩)] 127)) V)=>lV 1 d 10 nm mn la na ka aa n3 lc n4 nc kn kc an ac V (hc0.below b hb0) (Nat.lt_of_lt_of_le hb0 b.size) r hr);simp only [Nd.ptr] at HO;have c1:=hc0 1 _ rfl;have c2:=hc0 2 _ rfl;have c3:=hc0 3 _ rfl;have c4:=hc0 4 _ rfl;have c5:=hc0 5 _ rfl;have c6:=hc0 6 _ rfl;have HB:=hide hB;rw [CJ] at hr;have iy:q=((!nm.toList.isEmpty && decide ((nm.size:Int)<=60000)) && r):=Bool.eq_iff_iff.2 (hq.trans (by rw [hr,hal,el,es];exact XH _ _ _ _ _ _ _ _ en));have HQ:=hide iy
 cases g0:nm.toList.isEmpty with
 | true=>
  have HF:Hid (q=false):=by unfold Hid;rw [HQ.out,g0];rfl
  exact zz131
 | false=>
  by_cases g1:(nm.size:Int)<=60000
  .have HF:Hid (q=r):=by unfold Hid;rw [HQ.out,g0,decide_eq_true g1];rfl
   clear HQ;clear hq hr el es en aD aC hc hc0 hB hl hn hal hnz hb hb0 hnm iy;go_enter Tryz.func177,Tryz.ntmps177;go_wp2_with (refine (HO.out _ (Below.refl _ _)).mono ?_;rintro e w1 ⟨rfl,b1⟩);go_ret;exact ⟨by rw [HF.out];rfl,HB.out.trans (b1.mono HB.out.size)⟩
  .have HF:Hid (q=false):=by unfold Hid;rw [HQ.out,g0,decide_eq_false g1];rfl
   exact zz131
theorem w_6 (d:Nd) (au:ByteArray) (cs:List ByteArray) (nm:ByteArray) (mn:Bool) (la na ka aa:Option Addr) (lc nc kn kc an ac:Nat) (lm:List Int) (ns:List ByteArray) (al:Tm) (W:World) (hh:Wc d 6 nm mn la na ka aa lc nc kn kc an ac lm ns al W) (q:Bool) (hq:q=true↔fA ⟨au,cs,6,nm,mn,lm,ns⟩ kn al):
  Calls Tryz.prog 165 #[.agg #[d.ptr]] W λe W'=>e=.returned (.bool q)∧Below W.heap.size W W':=by
 obtain ⟨hc,hb,hl,hn,hmx,hnz,hkn,ed,hal,hnm⟩:=hh;rw [MQ] at hq;obtain ⟨n3,aD⟩:∃n,n=lm.length:=⟨_,rfl⟩
 obtain ⟨n4,aC⟩:∃n,n=ns.length:=⟨_,rfl⟩
 have el:lm=[]↔n3=0:=by rw [aD];exact List.length_eq_zero_iff.symm
 have es:ns=[]↔n4=0:=by rw [aC];exact List.length_eq_zero_iff.symm
 have en:=kH nm;have hx1:nm.size<=9223372036854775807:=hnm;have hx3:n3<=16777216:=by omega
 have hx4:n4<=16777216:=by omega
 simp only [Nd.ptr];have hB:=below_alloc1 W (.cells #[.pointer (some ⟨d.b,d.o,none⟩)] 123);have hc0:=hc.below hB hb;have hb0:=Nat.lt_of_lt_of_le hb hB.size;rw [<- aD,<- aC] at hc0;obtain ⟨r,hr⟩:∃r,r=only 12 (!nm.toList.isEmpty) (mn || decide (0 < n3)) (decide (0 < n4)) (decide (0 < kn)) (decide (0 < an)):=⟨_,rfl⟩
 have HO:=hide (λV (b:Below (W.alloc (.cells #[.pointer (some ⟨d.b,d.o,none⟩)] 123)).heap.size (W.alloc (.cells #[.pointer (some ⟨d.b,d.o,none⟩)] 123)) V)=>lV 12 d 6 nm mn la na ka aa n3 lc n4 nc kn kc an ac V (hc0.below b hb0) (Nat.lt_of_lt_of_le hb0 b.size) r hr);simp only [Nd.ptr] at HO;have c1:=hc0 1 _ rfl;have c2:=hc0 2 _ rfl;have c3:=hc0 3 _ rfl;have c4:=hc0 4 _ rfl;have c5:=hc0 5 _ rfl;have c6:=hc0 6 _ rfl;have HB:=hide hB;rw [Ej] at hr;obtain ⟨bn,hbn⟩:∃bn:Bool,bn=true↔(¬ns=[]∧bC ns):=by
  exact zz145
 have HW:Hid (Wc d 6 nm mn la na ka aa lc nc kn kc an ac lm ns al (W.alloc (.cells #[.pointer (some ⟨d.b,d.o,none⟩)] 123))):=Wc.below ⟨hc,hb,hl,hn,hmx,hnz,hkn,ed,hal,hnm⟩ hB;have HG:=hide (El d 6 nm mn la na ka aa lc nc kn kc an ac lm ns al _ HW.out bn hbn);simp only [Nd.ptr] at HG;have iy:q=((decide ((kn:Int)=1) && bn) && r):=Bool.eq_iff_iff.2 (hq.trans (by rw [hr,hal,el];exact lg6 _ _ _ _ _ _ _ _ _ en hbn));have HQ:=hide iy
 by_cases g0:(kn:Int)=1
 .cases bn with
  | true=>
   have HF:Hid (q=r):=by unfold Hid;rw [HQ.out,decide_eq_true g0];rfl
   clear HQ;clear hq hr el es en aD aC hc hc0 hB hl hn hal hnz hb hb0 hnm iy hbn HW;go_enter Tryz.func165,Tryz.ntmps165;go_wp2_with (first | (refine HG.out.mono ?_;rintro e w1 ⟨rfl,b1⟩;have XF:=(b1.cell (p:=⟨W.heap.size,0,none⟩) (by simp)).trans (show _=some (.pointer (some ⟨d.b,d.o,none⟩)) by simp)) | (refine (HO.out _ b1).mono ?_;rintro e w2 ⟨rfl,b2⟩));go_ret;exact ⟨by rw [HF.out];rfl,HB.out.trans ((b1.trans (b2.mono b1.size)).mono HB.out.size)⟩
  | false=>
   have HF:Hid (q=false):=by unfold Hid;rw [HQ.out,decide_eq_true g0];rfl
   clear HQ;clear hq hr el es en aD aC hc hc0 hB hl hn hal hnz hb hb0 hnm iy hbn HW;go_enter Tryz.func165,Tryz.ntmps165;go_wp2_with (refine HG.out.mono ?_;rintro e w1 ⟨rfl,b1⟩);go_ret;exact ⟨by rw [HF.out];rfl,HB.out.trans (b1.mono HB.out.size)⟩
 .have HF:Hid (q=false):=by unfold Hid;rw [HQ.out,decide_eq_false g0];rfl
  clear HQ;clear hq hr el es en aD aC hc hc0 hB hl hn hal hnz hb hb0 hnm iy hbn HW;go_enter Tryz.func165,Tryz.ntmps165;go_wp2_with fail;go_ret;exact ⟨by rw [HF.out];rfl,HB.out⟩
end Go.Proofs.YthfnobboalhihaaGreat.C
namespace Go.Proofs.YthfnobboalhihaaGreat
open Go.RowKit Go.Joins
theorem zz79 {P:Prop} (h:P:=by
 refine wpAnyH_done (by kernel_rfl) ?_ _;go_wp2_with fail;go_ret;exact ⟨by rw [HF.out];rfl,HB.out.trans ((Below.refl _ _).drew.mono HB.out.size)⟩):P:=h
theorem zz216 {P:Prop} (h:P:=by
 go_wp2_with fail;go_ret;exact ⟨by rw [HF.out];rfl,HB.out.trans (hb2.mono HB.out.size)⟩):P:=h
end Go.Proofs.YthfnobboalhihaaGreat
namespace Go.Proofs.YthfnobboalhihaaGreat.C
open Go.RowKit Go.Joins
theorem w_7 (d:Nd) (au:ByteArray) (cs:List ByteArray) (nm:ByteArray) (mn:Bool) (la na ka aa:Option Addr) (lc nc kn kc an ac:Nat) (lm:List Int) (ns:List ByteArray) (al:Tm) (W:World) (hh:Wc d 7 nm mn la na ka aa lc nc kn kc an ac lm ns al W) (q:Bool) (hq:q=true↔fA ⟨au,cs,7,nm,mn,lm,ns⟩ kn al):
  Calls Tryz.prog 168 #[.agg #[d.ptr]] W λe W'=>e=.returned (.bool q)∧Below W.heap.size W W':=by
 obtain ⟨hc,hb,hl,hn,hmx,hnz,hkn,ed,hal,hnm⟩:=hh;rw [Nq] at hq;obtain ⟨n3,aD⟩:∃n,n=lm.length:=⟨_,rfl⟩
 obtain ⟨n4,aC⟩:∃n,n=ns.length:=⟨_,rfl⟩
 have el:lm=[]↔n3=0:=by rw [aD];exact List.length_eq_zero_iff.symm
 have es:ns=[]↔n4=0:=by rw [aC];exact List.length_eq_zero_iff.symm
 have en:=kH nm;have hx1:nm.size<=9223372036854775807:=hnm;have hx3:n3<=16777216:=by omega
 have hx4:n4<=16777216:=by omega
 simp only [Nd.ptr];have hB:=below_alloc1 W (.cells #[.pointer (some ⟨d.b,d.o,none⟩)] 124);have hc0:=hc.below hB hb;have hb0:=Nat.lt_of_lt_of_le hb hB.size;rw [<- aD,<- aC] at hc0;obtain ⟨r,hr⟩:∃r,r=only 12 (!nm.toList.isEmpty) (mn || decide (0 < n3)) (decide (0 < n4)) (decide (0 < kn)) (decide (0 < an)):=⟨_,rfl⟩
 have HO:=hide (λV (b:Below (W.alloc (.cells #[.pointer (some ⟨d.b,d.o,none⟩)] 124)).heap.size (W.alloc (.cells #[.pointer (some ⟨d.b,d.o,none⟩)] 124)) V)=>lV 12 d 7 nm mn la na ka aa n3 lc n4 nc kn kc an ac V (hc0.below b hb0) (Nat.lt_of_lt_of_le hb0 b.size) r hr);simp only [Nd.ptr] at HO;have c1:=hc0 1 _ rfl;have c2:=hc0 2 _ rfl;have c3:=hc0 3 _ rfl;have c4:=hc0 4 _ rfl;have c5:=hc0 5 _ rfl;have c6:=hc0 6 _ rfl;have HB:=hide hB;rw [Ej] at hr;obtain ⟨bn,hbn⟩:∃bn:Bool,bn=true↔(¬ns=[]∧bC ns):=by
  exact zz145
 have HW:Hid (Wc d 7 nm mn la na ka aa lc nc kn kc an ac lm ns al (W.alloc (.cells #[.pointer (some ⟨d.b,d.o,none⟩)] 124))):=Wc.below ⟨hc,hb,hl,hn,hmx,hnz,hkn,ed,hal,hnm⟩ hB;have HG:=hide (λV (b:Below (W.alloc (.cells #[.pointer (some ⟨d.b,d.o,none⟩)] 124)).heap.size (W.alloc (.cells #[.pointer (some ⟨d.b,d.o,none⟩)] 124)) V)=>El d 7 nm mn la na ka aa lc nc kn kc an ac lm ns al V (HW.out.below b) bn hbn);simp only [Nd.ptr] at HG;have iy:q=((decide ((kn:Int)=n4+1) && bn) && r):=Bool.eq_iff_iff.2 (hq.trans (by rw [hr,hal,el,<- aC];exact lg7 _ _ _ _ _ _ _ _ _ _ en hbn));have HQ:=hide iy
 have HS:Hid (∀V,Below (W.alloc (.cells #[.pointer (some ⟨d.b,d.o,none⟩)] 124)).heap.size (W.alloc (.cells #[.pointer (some ⟨d.b,d.o,none⟩)] 124)) V->V.cell? ⟨W.heap.size,0,none⟩=some (.pointer (some ⟨d.b,d.o,none⟩))∧V.cell? ⟨d.b,d.o+4,none⟩=some (.slice na n4 nc)∧V.cell? ⟨d.b,d.o+5,none⟩=some (.slice ka kn kc)):=λV b=>⟨(b.cell (p:=⟨W.heap.size,0,none⟩) (by simp)).trans (by simp),hc0.below b hb0 4 _ rfl,hc0.below b hb0 5 _ rfl⟩
 have eD:=HS.out _ (Below.refl _ _).drew;have hwn:IntKind.i64.wrap ((n4:Int)+1)=n4+1:=by rw [IntKind.wrap_i64];omega
 by_cases g0:(kn:Int)=n4+1
 .cases bn with
  | true=>
   have HF:Hid (q=r):=by unfold Hid;rw [HQ.out,decide_eq_true g0];rfl
   clear HQ;clear hq hr el es en aD aC hc hc0 hB hl hn hal hnz hb hb0 hnm iy hbn HW c1 c2 c3 c4 c5 c6;go_enter Tryz.func168,Tryz.ntmps168
   go_upto_region 1 with fail
   go_region_held3 (λV=>V.cell? ⟨W.heap.size,0,none⟩=some (.pointer (some ⟨d.b,d.o,none⟩))∧V.cell? ⟨d.b,d.o+4,none⟩=some (.slice na n4 nc)∧V.cell? ⟨d.b,d.o+5,none⟩=some (.slice ka kn kc))
    (first | with_reducible exact eD | with_reducible exact dK | with_reducible exact oF)
    (first | (go_at_call 150;refine (HG.out _ (Below.refl _ _).drew).mono ?_;rintro e w1 ⟨rfl,b1⟩;have hb1:=(Below.refl _ _).drew.trans (b1.mono (Nat.le_refl _));have dK:=HS.out w1 hb1) | (go_at_call 156;refine (HO.out _ hb1).mono ?_;rintro e w2 ⟨rfl,b2⟩;have hb2:=hb1.trans (b2.mono hb1.size);have oF:=HS.out w2 hb2) | fail)
   exact zz216
  | false=>
   have HF:Hid (q=false):=by unfold Hid;rw [HQ.out,decide_eq_true g0];rfl
   clear HQ;clear hq hr el es en aD aC hc hc0 hB hl hn hal hnz hb hb0 hnm iy hbn HW c1 c2 c3 c4 c5 c6;go_enter Tryz.func168,Tryz.ntmps168
   go_upto_region 1 with fail
   refine wp_region_held_drew (S:=λV=>V.cell? ⟨W.heap.size,0,none⟩=some (.pointer (some ⟨d.b,d.o,none⟩))∧V.cell? ⟨d.b,d.o+4,none⟩=some (.slice na n4 nc)∧V.cell? ⟨d.b,d.o+5,none⟩=some (.slice ka kn kc)) (by kernel_rfl) eD (λhHeld=>?_);refine tn 0 ?_;refine tn 1 ?_;refine tn 2 ?_;refine tn 3 ?_;refine tn 4 ?_;refine tn 5 ?_;refine tn 6 ?_;refine tn 7 ?_;refine tn 8 ?_;refine tn 9 ?_;refine tn 10 ?_;refine tn 11 ?_;refine tn 12 ?_;refine tn 13 ?_;refine tn 14 ?_;refine tn 15 ?_;refine tn 16 ?_;refine tn 17 ?_;refine tn 18 ?_;refine wpAnyH_ready (rs:=[19]) (by kernel_rfl) (by simp) ?_
   refine AllReadyH.cons (o:={dst:=some 22,op:=Op.call {callee:=Callee.value (Operand.func 150),args:=#[Operand.tmp 21],argTypes:=#[116]},type:=4,pos:= "l13_core.go:382",after:=#[{on:=18,ground:=Ground.data},{on:=16,ground:=Ground.chain},{on:=16,ground:=Ground.guard}],guard:=some (16,true)}) rfl (λK hK=>?_) AllReadyH.nil;go_simp;refine (HG.out _ (Below.refl _ _).drew).mono ?_;rintro e w1 ⟨rfl,b1⟩;have hb1:=(Below.refl _ _).drew.trans (b1.mono (Nat.le_refl _));have dK:=HS.out w1 hb1;refine hK.out _ _ dK (λhHeld=>?_);clear hK K;(try simp only [Act.put,List.setIfInBounds_toArray,List.set_cons_zero,List.set_cons_succ]);refine tn 20 ?_;refine tn 21 ?_
   refine' wpAnyH_take (i:=22) (oi:={dst:=some 25,op:=Op.fieldAddr 124 (Operand.tmp 1) 0,type:=0,pos:= "l13_core.go:382",after:=#[{on:=21,ground:=Ground.guard}],guard:=some (21,true)}) (v:=_) rfl (by kernel_rfl) (by kernel_rfl) (by kernel_rfl) (λ_ _ _ h=>h) (Or.inr ⟨by rfl,by rfl⟩) (by assumption) ?YV;(try simp only [Act.put,List.setIfInBounds_toArray,List.set_cons_zero,List.set_cons_succ]);refine' wpAnyH_take (i:=23) (oi:={dst:=some 26,op:=Op.load 116 (Operand.tmp 25),type:=116,pos:= "l13_core.go:382",after:=#[{on:=22,ground:=Ground.data},{on:=21,ground:=Ground.guard}],guard:=some (21,true)}) (v:=_) rfl (by kernel_rfl) (by kernel_rfl) (by kernel_rfl) (λ_ _ _ h=>h) (Or.inr ⟨by rfl,by rfl⟩) (by assumption) ?YW;(try simp only [Act.put,List.setIfInBounds_toArray,List.set_cons_zero,List.set_cons_succ])
   refine' wpAnyH_take (i:=24) (oi:={dst:=some 27,op:=Op.call {callee:=Callee.value (Operand.func 156),args:=#[Operand.tmp 26,Operand.const (Value.int IntKind.i64 12)],argTypes:=#[116,3]},type:=4,pos:= "l13_core.go:382",after:=#[{on:=23,ground:=Ground.data},{on:=21,ground:=Ground.chain},{on:=21,ground:=Ground.guard}],guard:=some (21,true)}) (v:=_) rfl (by kernel_rfl) (by kernel_rfl) (by kernel_rfl) (λ_ _ _ h=>h) (Or.inr ⟨by rfl,by rfl⟩) (by assumption) ?YX;(try simp only [Act.put,List.setIfInBounds_toArray,List.set_cons_zero,List.set_cons_succ]);refine tn 25 ?_;refine tn 26 ?_;refine wpAnyH_done (by kernel_rfl) ?_ _;go_wp2_with fail;go_ret;exact ⟨by rw [HF.out];rfl,HB.out.trans (hb1.mono HB.out.size)⟩
 .have HF:Hid (q=false):=by unfold Hid;rw [HQ.out,decide_eq_false g0];rfl
  have g1:((kn:Int)==n4+1)=false:=by rw [beq_eq_false_iff_ne];exact g0
  clear HQ;clear hq hr el es en aD aC hc hc0 hB hl hn hal hnz hb hb0 hnm iy hbn HW c1 c2 c3 c4 c5 c6;go_enter Tryz.func168,Tryz.ntmps168
  go_upto_region 1 with fail
  refine wp_region_held_drew (S:=λV=>V.cell? ⟨W.heap.size,0,none⟩=some (.pointer (some ⟨d.b,d.o,none⟩))∧V.cell? ⟨d.b,d.o+4,none⟩=some (.slice na n4 nc)∧V.cell? ⟨d.b,d.o+5,none⟩=some (.slice ka kn kc)) (by kernel_rfl) eD (λhHeld=>?_);refine tn 0 ?_;refine tn 1 ?_;refine tn 2 ?_;refine tn 3 ?_;refine tn 4 ?_;refine tn 5 ?_;refine tn 6 ?_;refine tn 7 ?_;refine tn 8 ?_;refine tn 9 ?_;refine tn 10 ?_;refine tn 11 ?_;refine tn 12 ?_;refine tn 13 ?_;refine tn 14 ?_;refine tn 15 ?_;refine tn 16 ?_;refine' wpAnyH_take (i:=17) (oi:={dst:=some 20,op:=Op.fieldAddr 124 (Operand.tmp 1) 0,type:=0,pos:= "l13_core.go:382",after:=#[{on:=16,ground:=Ground.guard}],guard:=some (16,true)}) (v:=_) rfl (by kernel_rfl) (by kernel_rfl) (by kernel_rfl) (λ_ _ _ h=>h) (Or.inr ⟨by rfl,by rfl⟩) (by assumption) ?N8;(try simp only [Act.put,List.setIfInBounds_toArray,List.set_cons_zero,List.set_cons_succ])
  refine' wpAnyH_take (i:=18) (oi:={dst:=some 21,op:=Op.load 116 (Operand.tmp 20),type:=116,pos:= "l13_core.go:382",after:=#[{on:=17,ground:=Ground.data},{on:=16,ground:=Ground.guard}],guard:=some (16,true)}) (v:=_) rfl (by kernel_rfl) (by kernel_rfl) (by kernel_rfl) (λ_ _ _ h=>h) (Or.inr ⟨by rfl,by rfl⟩) (by assumption) ?N9;(try simp only [Act.put,List.setIfInBounds_toArray,List.set_cons_zero,List.set_cons_succ]);refine' wpAnyH_take (i:=19) (oi:={dst:=some 22,op:=Op.call {callee:=Callee.value (Operand.func 150),args:=#[Operand.tmp 21],argTypes:=#[116]},type:=4,pos:= "l13_core.go:382",after:=#[{on:=18,ground:=Ground.data},{on:=16,ground:=Ground.chain},{on:=16,ground:=Ground.guard}],guard:=some (16,true)}) (v:=_) rfl (by kernel_rfl) (by kernel_rfl) (by kernel_rfl) (λ_ _ _ h=>h) (Or.inr ⟨by rfl,by rfl⟩) (by assumption) ?Oa
  (try simp only [Act.put,List.setIfInBounds_toArray,List.set_cons_zero,List.set_cons_succ]);refine tn 20 ?_;refine tn 21 ?_;refine' wpAnyH_take (i:=22) (oi:={dst:=some 25,op:=Op.fieldAddr 124 (Operand.tmp 1) 0,type:=0,pos:= "l13_core.go:382",after:=#[{on:=21,ground:=Ground.guard}],guard:=some (21,true)}) (v:=_) rfl (by kernel_rfl) (by kernel_rfl) (by kernel_rfl) (λ_ _ _ h=>h) (Or.inr ⟨by rfl,by rfl⟩) (by assumption) ?Ob;(try simp only [Act.put,List.setIfInBounds_toArray,List.set_cons_zero,List.set_cons_succ]);refine' wpAnyH_take (i:=23) (oi:={dst:=some 26,op:=Op.load 116 (Operand.tmp 25),type:=116,pos:= "l13_core.go:382",after:=#[{on:=22,ground:=Ground.data},{on:=21,ground:=Ground.guard}],guard:=some (21,true)}) (v:=_) rfl (by kernel_rfl) (by kernel_rfl) (by kernel_rfl) (λ_ _ _ h=>h) (Or.inr ⟨by rfl,by rfl⟩) (by assumption) ?Oc
  (try simp only [Act.put,List.setIfInBounds_toArray,List.set_cons_zero,List.set_cons_succ]);refine' wpAnyH_take (i:=24) (oi:={dst:=some 27,op:=Op.call {callee:=Callee.value (Operand.func 156),args:=#[Operand.tmp 26,Operand.const (Value.int IntKind.i64 12)],argTypes:=#[116,3]},type:=4,pos:= "l13_core.go:382",after:=#[{on:=23,ground:=Ground.data},{on:=21,ground:=Ground.chain},{on:=21,ground:=Ground.guard}],guard:=some (21,true)}) (v:=_) rfl (by kernel_rfl) (by kernel_rfl) (by kernel_rfl) (λ_ _ _ h=>h) (Or.inr ⟨by rfl,by rfl⟩) (by assumption) ?YY;(try simp only [Act.put,List.setIfInBounds_toArray,List.set_cons_zero,List.set_cons_succ]);refine tn 25 ?_;refine tn 26 ?_;exact zz79
end Go.Proofs.YthfnobboalhihaaGreat.C
namespace Go.Proofs.YthfnobboalhihaaGreat
open Go.RowKit Go.Joins
theorem zz164 {P:Prop} (h:P:=by
 (try simp only [Act.put,List.setIfInBounds_toArray,List.set_cons_zero,List.set_cons_succ]);refine tn 29 ?_;refine tn 30 ?_;exact zz79):P:=h
end Go.Proofs.YthfnobboalhihaaGreat
namespace Go.Proofs.YthfnobboalhihaaGreat.C
open Go.RowKit Go.Joins
theorem w_9 (d:Nd) (au:ByteArray) (cs:List ByteArray) (nm:ByteArray) (mn:Bool) (la na ka aa:Option Addr) (lc nc kn kc an ac:Nat) (lm:List Int) (ns:List ByteArray) (al:Tm) (W:World) (hh:Wc d 9 nm mn la na ka aa lc nc kn kc an ac lm ns al W) (q:Bool) (hq:q=true↔fA ⟨au,cs,9,nm,mn,lm,ns⟩ kn al):
  Calls Tryz.prog 175 #[.agg #[d.ptr]] W λe W'=>e=.returned (.bool q)∧Below W.heap.size W W':=by
 obtain ⟨hc,hb,hl,hn,hmx,hnz,hkn,ed,hal,hnm⟩:=hh;rw [Nk] at hq;obtain ⟨n3,aD⟩:∃n,n=lm.length:=⟨_,rfl⟩
 obtain ⟨n4,aC⟩:∃n,n=ns.length:=⟨_,rfl⟩
 have el:lm=[]↔n3=0:=by rw [aD];exact List.length_eq_zero_iff.symm
 have es:ns=[]↔n4=0:=by rw [aC];exact List.length_eq_zero_iff.symm
 have en:=kH nm;have hx1:nm.size<=9223372036854775807:=hnm;have hx3:n3<=16777216:=by omega
 have hx4:n4<=16777216:=by omega
 simp only [Nd.ptr];have hB:=below_alloc1 W (.cells #[.pointer (some ⟨d.b,d.o,none⟩)] 126);have hc0:=hc.below hB hb;have hb0:=Nat.lt_of_lt_of_le hb hB.size;rw [<- aD,<- aC] at hc0;obtain ⟨r,hr⟩:∃r,r=only 9 (!nm.toList.isEmpty) (mn || decide (0 < n3)) (decide (0 < n4)) (decide (0 < kn)) (decide (0 < an)):=⟨_,rfl⟩
 have HO:=hide (λV (b:Below (W.alloc (.cells #[.pointer (some ⟨d.b,d.o,none⟩)] 126)).heap.size (W.alloc (.cells #[.pointer (some ⟨d.b,d.o,none⟩)] 126)) V)=>lV 9 d 9 nm mn la na ka aa n3 lc n4 nc kn kc an ac V (hc0.below b hb0) (Nat.lt_of_lt_of_le hb0 b.size) r hr);simp only [Nd.ptr] at HO;have c1:=hc0 1 _ rfl;have c2:=hc0 2 _ rfl;have c3:=hc0 3 _ rfl;have c4:=hc0 4 _ rfl;have c5:=hc0 5 _ rfl;have c6:=hc0 6 _ rfl;have HB:=hide hB;rw [JH] at hr;obtain ⟨p,hp⟩:∃p,p=iM nm:=⟨_,rfl⟩
 have HP:=hide (λV=>UA nm V);rw [<- hp] at hq HP;have iy:q=((decide ((0:Int) < kn) && decide ((kn:Int)=p)) && r):=Bool.eq_iff_iff.2 (hq.trans (by rw [hr,hal,el,es];exact lg9 _ _ _ _ _ _));have HQ:=hide iy;have HS:Hid (∀V,Below (W.alloc (.cells #[.pointer (some ⟨d.b,d.o,none⟩)] 126)).heap.size (W.alloc (.cells #[.pointer (some ⟨d.b,d.o,none⟩)] 126)) V->V.cell? ⟨W.heap.size,0,none⟩=some (.pointer (some ⟨d.b,d.o,none⟩))∧V.cell? ⟨d.b,d.o+1,none⟩=some (.string nm)∧V.cell? ⟨d.b,d.o+5,none⟩=some (.slice ka kn kc)):=λV b=>⟨(b.cell (p:=⟨W.heap.size,0,none⟩) (by simp)).trans (by simp),hc0.below b hb0 1 _ rfl,hc0.below b hb0 5 _ rfl⟩
 have eD:=HS.out _ (Below.refl _ _).drew
 by_cases g0:(0:Int) < kn
 .have g0n:0 < kn:=by omega
  by_cases g1:(kn:Int)=p
  .have HF:Hid (q=r):=by unfold Hid;rw [HQ.out,decide_eq_true g0,decide_eq_true g1];rfl
   clear HQ;clear hq hr el es en aD aC hc hc0 hB hl hn hal hnz hb hb0 hnm iy hp c1 c2 c3 c4 c5 c6;subst g1;go_enter Tryz.func175,Tryz.ntmps175
   go_upto_region 1 with fail
   refine wp_region_held_drew (S:=λV=>V.cell? ⟨W.heap.size,0,none⟩=some (.pointer (some ⟨d.b,d.o,none⟩))∧V.cell? ⟨d.b,d.o+1,none⟩=some (.string nm)∧V.cell? ⟨d.b,d.o+5,none⟩=some (.slice ka kn kc)) (by kernel_rfl) eD (λhHeld=>?_);refine tn 0 ?_;refine tn 1 ?_;refine tn 2 ?_;refine tn 3 ?_;refine tn 4 ?_;refine tn 5 ?_;refine tn 6 ?_;refine tn 7 ?_;refine tn 8 ?_;refine tn 9 ?_;refine tn 10 ?_;refine tn 11 ?_;refine tn 12 ?_;refine tn 13 ?_;refine tn 14 ?_;refine tn 15 ?_;refine tn 16 ?_;refine tn 17 ?_;refine tn 18 ?_;refine tn 19 ?_;refine tn 20 ?_;refine tn 21 ?_;refine wpAnyH_ready (rs:=[22]) (by kernel_rfl) (by simp) ?_
   refine AllReadyH.cons (o:={dst:=some 25,op:=Op.call {callee:=Callee.value (Operand.func 176),args:=#[Operand.tmp 24],argTypes:=#[9]},type:=2,pos:= "l13_core.go:398",after:=#[{on:=21,ground:=Ground.data},{on:=8,ground:=Ground.chain},{on:=8,ground:=Ground.guard}],guard:=some (8,true)}) rfl (λK hK=>?_) AllReadyH.nil;go_simp;refine (HP.out _).mono ?_;rintro e w1 ⟨rfl,rfl⟩;refine hK.out _ _ eD (λhHeld=>?_);clear hK K;(try simp only [Act.put,List.setIfInBounds_toArray,List.set_cons_zero,List.set_cons_succ]);refine tn 23 ?_;refine tn 24 ?_;refine tn 25 ?_;refine tn 26 ?_;refine tn 27 ?_;refine wpAnyH_ready (rs:=[28]) (by kernel_rfl) (by simp) ?_
   refine AllReadyH.cons (o:={dst:=some 31,op:=Op.call {callee:=Callee.value (Operand.func 156),args:=#[Operand.tmp 30,Operand.const (Value.int IntKind.i64 9)],argTypes:=#[116,3]},type:=4,pos:= "l13_core.go:398",after:=#[{on:=27,ground:=Ground.data},{on:=25,ground:=Ground.chain},{on:=25,ground:=Ground.guard}],guard:=some (25,true)}) rfl (λK hK=>?_) AllReadyH.nil;go_simp;refine (HO.out _ (Below.refl _ _).drew).mono ?_;rintro e w2 ⟨rfl,b2⟩;have hb2:=(Below.refl _ _).drew.trans (b2.mono (Nat.le_refl _));have oF:=HS.out w2 hb2;refine hK.out _ _ oF (λhHeld=>?_);clear hK K;(try simp only [Act.put,List.setIfInBounds_toArray,List.set_cons_zero,List.set_cons_succ]);refine tn 29 ?_;refine tn 30 ?_;refine wpAnyH_done (by kernel_rfl) ?_ _;exact zz216
  .have HF:Hid (q=false):=by unfold Hid;rw [HQ.out,decide_eq_true g0,decide_eq_false g1];rfl
   have g2:((kn:Int)==p)=false:=by rw [beq_eq_false_iff_ne];exact g1
   clear HQ;clear hq hr el es en aD aC hc hc0 hB hl hn hal hnz hb hb0 hnm iy hp c1 c2 c3 c4 c5 c6;go_enter Tryz.func175,Tryz.ntmps175
   go_upto_region 1 with fail
   refine wp_region_held_drew (S:=λV=>V.cell? ⟨W.heap.size,0,none⟩=some (.pointer (some ⟨d.b,d.o,none⟩))∧V.cell? ⟨d.b,d.o+1,none⟩=some (.string nm)∧V.cell? ⟨d.b,d.o+5,none⟩=some (.slice ka kn kc)) (by kernel_rfl) eD (λhHeld=>?_);refine tn 0 ?_;refine tn 1 ?_;refine tn 2 ?_;refine tn 3 ?_;refine tn 4 ?_;refine tn 5 ?_;refine tn 6 ?_;refine tn 7 ?_;refine tn 8 ?_;refine tn 9 ?_;refine tn 10 ?_;refine tn 11 ?_;refine tn 12 ?_;refine tn 13 ?_;refine tn 14 ?_;refine tn 15 ?_;refine tn 16 ?_;refine tn 17 ?_;refine tn 18 ?_;refine tn 19 ?_;refine tn 20 ?_;refine tn 21 ?_;refine wpAnyH_ready (rs:=[22]) (by kernel_rfl) (by simp) ?_
   refine AllReadyH.cons (o:={dst:=some 25,op:=Op.call {callee:=Callee.value (Operand.func 176),args:=#[Operand.tmp 24],argTypes:=#[9]},type:=2,pos:= "l13_core.go:398",after:=#[{on:=21,ground:=Ground.data},{on:=8,ground:=Ground.chain},{on:=8,ground:=Ground.guard}],guard:=some (8,true)}) rfl (λK hK=>?_) AllReadyH.nil;go_simp;refine (HP.out _).mono ?_;rintro e w1 ⟨rfl,rfl⟩;refine hK.out _ _ eD (λhHeld=>?_);clear hK K;(try simp only [Act.put,List.setIfInBounds_toArray,List.set_cons_zero,List.set_cons_succ]);refine tn 23 ?_;refine tn 24 ?_;refine tn 25 ?_;refine' wpAnyH_take (i:=26) (oi:={dst:=some 29,op:=Op.fieldAddr 126 (Operand.tmp 1) 0,type:=0,pos:= "l13_core.go:398",after:=#[{on:=25,ground:=Ground.guard}],guard:=some (25,true)}) (v:=_) rfl (by kernel_rfl) (by kernel_rfl) (by kernel_rfl) (λ_ _ _ h=>h) (Or.inr ⟨by rfl,by rfl⟩) (by assumption) ?aaM
   (try simp only [Act.put,List.setIfInBounds_toArray,List.set_cons_zero,List.set_cons_succ]);refine' wpAnyH_take (i:=27) (oi:={dst:=some 30,op:=Op.load 116 (Operand.tmp 29),type:=116,pos:= "l13_core.go:398",after:=#[{on:=26,ground:=Ground.data},{on:=25,ground:=Ground.guard}],guard:=some (25,true)}) (v:=_) rfl (by kernel_rfl) (by kernel_rfl) (by kernel_rfl) (λ_ _ _ h=>h) (Or.inr ⟨by rfl,by rfl⟩) (by assumption) ?aaN;(try simp only [Act.put,List.setIfInBounds_toArray,List.set_cons_zero,List.set_cons_succ])
   refine' wpAnyH_take (i:=28) (oi:={dst:=some 31,op:=Op.call {callee:=Callee.value (Operand.func 156),args:=#[Operand.tmp 30,Operand.const (Value.int IntKind.i64 9)],argTypes:=#[116,3]},type:=4,pos:= "l13_core.go:398",after:=#[{on:=27,ground:=Ground.data},{on:=25,ground:=Ground.chain},{on:=25,ground:=Ground.guard}],guard:=some (25,true)}) (v:=_) rfl (by kernel_rfl) (by kernel_rfl) (by kernel_rfl) (λ_ _ _ h=>h) (Or.inr ⟨by rfl,by rfl⟩) (by assumption) ?aaO;exact zz164
 .have HF:Hid (q=false):=by unfold Hid;rw [HQ.out,decide_eq_false g0];rfl
  have g0n:¬0 < kn:=by omega
  clear HQ;clear hq hr el es en aD aC hc hc0 hB hl hn hal hnz hb hb0 hnm iy hp c1 c2 c3 c4 c5 c6;go_enter Tryz.func175,Tryz.ntmps175
  go_upto_region 1 with fail
  refine wp_region_held_drew (S:=λV=>V.cell? ⟨W.heap.size,0,none⟩=some (.pointer (some ⟨d.b,d.o,none⟩))∧V.cell? ⟨d.b,d.o+1,none⟩=some (.string nm)∧V.cell? ⟨d.b,d.o+5,none⟩=some (.slice ka kn kc)) (by kernel_rfl) eD (λhHeld=>?_);refine tn 0 ?_;refine tn 1 ?_;refine tn 2 ?_;refine tn 3 ?_;refine tn 4 ?_;refine tn 5 ?_;refine tn 6 ?_;refine tn 7 ?_;refine tn 8 ?_;refine' wpAnyH_take (i:=9) (oi:={dst:=some 12,op:=Op.fieldAddr 126 (Operand.tmp 1) 0,type:=0,pos:= "l13_core.go:398",after:=#[{on:=8,ground:=Ground.guard}],guard:=some (8,true)}) (v:=_) rfl (by kernel_rfl) (by kernel_rfl) (by kernel_rfl) (λ_ _ _ h=>h) (Or.inr ⟨by rfl,by rfl⟩) (by assumption) ?aa6;(try simp only [Act.put,List.setIfInBounds_toArray,List.set_cons_zero,List.set_cons_succ])
  refine' wpAnyH_take (i:=10) (oi:={dst:=some 13,op:=Op.fieldAddr 116 (Operand.tmp 12) 0,type:=0,pos:= "l13_core.go:398",after:=#[{on:=9,ground:=Ground.data},{on:=8,ground:=Ground.guard}],guard:=some (8,true)}) (v:=_) rfl (by kernel_rfl) (by kernel_rfl) (by kernel_rfl) (λ_ _ _ h=>h) (Or.inr ⟨by rfl,by rfl⟩) (by assumption) ?aaP;(try simp only [Act.put,List.setIfInBounds_toArray,List.set_cons_zero,List.set_cons_succ]);refine' wpAnyH_take (i:=11) (oi:={dst:=some 14,op:=Op.load 55 (Operand.tmp 13),type:=55,pos:= "l13_core.go:398",after:=#[{on:=10,ground:=Ground.data},{on:=8,ground:=Ground.guard}],guard:=some (8,true)}) (v:=_) rfl (by kernel_rfl) (by kernel_rfl) (by kernel_rfl) (λ_ _ _ h=>h) (Or.inr ⟨by rfl,by rfl⟩) (by assumption) ?aaQ;(try simp only [Act.put,List.setIfInBounds_toArray,List.set_cons_zero,List.set_cons_succ])
  refine' wpAnyH_take (i:=12) (oi:={dst:=some 15,op:=Op.nilCheck (Operand.tmp 14),type:=0,pos:= "l13_core.go:398",after:=#[{on:=11,ground:=Ground.data},{on:=8,ground:=Ground.guard}],guard:=some (8,true)}) (v:=_) rfl (by kernel_rfl) (by kernel_rfl) (by kernel_rfl) (λ_ _ _ h=>h) (Or.inr ⟨by rfl,by rfl⟩) (by assumption) ?aaR;(try simp only [Act.put,List.setIfInBounds_toArray,List.set_cons_zero,List.set_cons_succ]);refine' wpAnyH_take (i:=13) (oi:={dst:=some 16,op:=Op.fieldAddr 35 (Operand.tmp 15) 4,type:=0,pos:= "l13_core.go:398",after:=#[{on:=12,ground:=Ground.data},{on:=8,ground:=Ground.guard}],guard:=some (8,true)}) (v:=_) rfl (by kernel_rfl) (by kernel_rfl) (by kernel_rfl) (λ_ _ _ h=>h) (Or.inr ⟨by rfl,by rfl⟩) (by assumption) ?aaS;(try simp only [Act.put,List.setIfInBounds_toArray,List.set_cons_zero,List.set_cons_succ])
  refine' wpAnyH_take (i:=14) (oi:={dst:=some 17,op:=Op.load 32 (Operand.tmp 16),type:=32,pos:= "l13_core.go:398",after:=#[{on:=13,ground:=Ground.data},{on:=8,ground:=Ground.guard}],guard:=some (8,true)}) (v:=_) rfl (by kernel_rfl) (by kernel_rfl) (by kernel_rfl) (λ_ _ _ h=>h) (Or.inr ⟨by rfl,by rfl⟩) (by assumption) ?aaT;(try simp only [Act.put,List.setIfInBounds_toArray,List.set_cons_zero,List.set_cons_succ]);refine' wpAnyH_take (i:=15) (oi:={dst:=some 18,op:=Op.call {callee:=Callee.builtin Builtin.len,args:=#[Operand.tmp 17],argTypes:=#[32]},type:=3,pos:= "l13_core.go:398",after:=#[{on:=14,ground:=Ground.data},{on:=8,ground:=Ground.guard}],guard:=some (8,true)}) (v:=_) rfl (by kernel_rfl) (by kernel_rfl) (by kernel_rfl) (λ_ _ _ h=>h) (Or.inr ⟨by rfl,by rfl⟩) (by assumption) ?aaU;(try simp only [Act.put,List.setIfInBounds_toArray,List.set_cons_zero,List.set_cons_succ])
  refine' wpAnyH_take (i:=16) (oi:={dst:=some 19,op:=Op.fieldAddr 126 (Operand.tmp 1) 0,type:=0,pos:= "l13_core.go:398",after:=#[{on:=8,ground:=Ground.guard}],guard:=some (8,true)}) (v:=_) rfl (by kernel_rfl) (by kernel_rfl) (by kernel_rfl) (λ_ _ _ h=>h) (Or.inr ⟨by rfl,by rfl⟩) (by assumption) ?aaV;(try simp only [Act.put,List.setIfInBounds_toArray,List.set_cons_zero,List.set_cons_succ]);refine' wpAnyH_take (i:=17) (oi:={dst:=some 20,op:=Op.fieldAddr 116 (Operand.tmp 19) 0,type:=0,pos:= "l13_core.go:398",after:=#[{on:=16,ground:=Ground.data},{on:=8,ground:=Ground.guard}],guard:=some (8,true)}) (v:=_) rfl (by kernel_rfl) (by kernel_rfl) (by kernel_rfl) (λ_ _ _ h=>h) (Or.inr ⟨by rfl,by rfl⟩) (by assumption) ?N8;(try simp only [Act.put,List.setIfInBounds_toArray,List.set_cons_zero,List.set_cons_succ])
  refine' wpAnyH_take (i:=18) (oi:={dst:=some 21,op:=Op.load 55 (Operand.tmp 20),type:=55,pos:= "l13_core.go:398",after:=#[{on:=17,ground:=Ground.data},{on:=8,ground:=Ground.guard}],guard:=some (8,true)}) (v:=_) rfl (by kernel_rfl) (by kernel_rfl) (by kernel_rfl) (λ_ _ _ h=>h) (Or.inr ⟨by rfl,by rfl⟩) (by assumption) ?N9;(try simp only [Act.put,List.setIfInBounds_toArray,List.set_cons_zero,List.set_cons_succ]);refine' wpAnyH_take (i:=19) (oi:={dst:=some 22,op:=Op.nilCheck (Operand.tmp 21),type:=0,pos:= "l13_core.go:398",after:=#[{on:=18,ground:=Ground.data},{on:=8,ground:=Ground.guard}],guard:=some (8,true)}) (v:=_) rfl (by kernel_rfl) (by kernel_rfl) (by kernel_rfl) (λ_ _ _ h=>h) (Or.inr ⟨by rfl,by rfl⟩) (by assumption) ?Oa;(try simp only [Act.put,List.setIfInBounds_toArray,List.set_cons_zero,List.set_cons_succ])
  refine' wpAnyH_take (i:=20) (oi:={dst:=some 23,op:=Op.fieldAddr 35 (Operand.tmp 22) 1,type:=0,pos:= "l13_core.go:398",after:=#[{on:=19,ground:=Ground.data},{on:=8,ground:=Ground.guard}],guard:=some (8,true)}) (v:=_) rfl (by kernel_rfl) (by kernel_rfl) (by kernel_rfl) (λ_ _ _ h=>h) (Or.inr ⟨by rfl,by rfl⟩) (by assumption) ?aaW;(try simp only [Act.put,List.setIfInBounds_toArray,List.set_cons_zero,List.set_cons_succ]);refine' wpAnyH_take (i:=21) (oi:={dst:=some 24,op:=Op.load 9 (Operand.tmp 23),type:=9,pos:= "l13_core.go:398",after:=#[{on:=20,ground:=Ground.data},{on:=8,ground:=Ground.guard}],guard:=some (8,true)}) (v:=_) rfl (by kernel_rfl) (by kernel_rfl) (by kernel_rfl) (λ_ _ _ h=>h) (Or.inr ⟨by rfl,by rfl⟩) (by assumption) ?aaX;(try simp only [Act.put,List.setIfInBounds_toArray,List.set_cons_zero,List.set_cons_succ])
  refine' wpAnyH_take (i:=22) (oi:={dst:=some 25,op:=Op.call {callee:=Callee.value (Operand.func 176),args:=#[Operand.tmp 24],argTypes:=#[9]},type:=2,pos:= "l13_core.go:398",after:=#[{on:=21,ground:=Ground.data},{on:=8,ground:=Ground.chain},{on:=8,ground:=Ground.guard}],guard:=some (8,true)}) (v:=_) rfl (by kernel_rfl) (by kernel_rfl) (by kernel_rfl) (λ_ _ _ h=>h) (Or.inr ⟨by rfl,by rfl⟩) (by assumption) ?Ob;(try simp only [Act.put,List.setIfInBounds_toArray,List.set_cons_zero,List.set_cons_succ]);refine' wpAnyH_take (i:=23) (oi:={dst:=some 26,op:=Op.binOp BinOp.eql 2 (Operand.tmp 18) (Operand.tmp 25) 2,type:=4,pos:= "l13_core.go:398",after:=#[{on:=15,ground:=Ground.data},{on:=22,ground:=Ground.data},{on:=8,ground:=Ground.guard}],guard:=some (8,true)}) (v:=_) rfl (by kernel_rfl) (by kernel_rfl) (by kernel_rfl) (λ_ _ _ h=>h) (Or.inr ⟨by rfl,by rfl⟩) (by assumption) ?Oc
  (try simp only [Act.put,List.setIfInBounds_toArray,List.set_cons_zero,List.set_cons_succ]);refine tn 24 ?_;refine tn 25 ?_;refine' wpAnyH_take (i:=26) (oi:={dst:=some 29,op:=Op.fieldAddr 126 (Operand.tmp 1) 0,type:=0,pos:= "l13_core.go:398",after:=#[{on:=25,ground:=Ground.guard}],guard:=some (25,true)}) (v:=_) rfl (by kernel_rfl) (by kernel_rfl) (by kernel_rfl) (λ_ _ _ h=>h) (Or.inr ⟨by rfl,by rfl⟩) (by assumption) ?aaY;(try simp only [Act.put,List.setIfInBounds_toArray,List.set_cons_zero,List.set_cons_succ]);refine' wpAnyH_take (i:=27) (oi:={dst:=some 30,op:=Op.load 116 (Operand.tmp 29),type:=116,pos:= "l13_core.go:398",after:=#[{on:=26,ground:=Ground.data},{on:=25,ground:=Ground.guard}],guard:=some (25,true)}) (v:=_) rfl (by kernel_rfl) (by kernel_rfl) (by kernel_rfl) (λ_ _ _ h=>h) (Or.inr ⟨by rfl,by rfl⟩) (by assumption) ?aaZ
  (try simp only [Act.put,List.setIfInBounds_toArray,List.set_cons_zero,List.set_cons_succ]);refine' wpAnyH_take (i:=28) (oi:={dst:=some 31,op:=Op.call {callee:=Callee.value (Operand.func 156),args:=#[Operand.tmp 30,Operand.const (Value.int IntKind.i64 9)],argTypes:=#[116,3]},type:=4,pos:= "l13_core.go:398",after:=#[{on:=27,ground:=Ground.data},{on:=25,ground:=Ground.chain},{on:=25,ground:=Ground.guard}],guard:=some (25,true)}) (v:=_) rfl (by kernel_rfl) (by kernel_rfl) (by kernel_rfl) (λ_ _ _ h=>h) (Or.inr ⟨by rfl,by rfl⟩) (by assumption) ?aa0;exact zz164
theorem w_0 (d:Nd) (W:World):Calls Tryz.prog 152 #[.agg #[d.ptr]] W λe W'=>e=.returned (.bool false)∧Below W.heap.size W W':=by
 simp only [Nd.ptr];have HB:=hide (below_alloc1 W (.cells #[.pointer (some ⟨d.b,d.o,none⟩)] 116));go_enter Tryz.func152,Tryz.ntmps152;go_wp2_with fail;go_ret;exact ⟨rfl,HB.out⟩
end Go.Proofs.YthfnobboalhihaaGreat.C
namespace Go.Proofs.YthfnobboalhihaaGreat
open Go.RowKit Go.Joins
theorem zz40 {P:Prop} (h:P:=by
 cases oc with
 | true=>
  go_wp2_with (first | (go_at_call 167;refine AL.out.mono ?_;rintro e w1 ⟨rfl,b1⟩;have fx:=(ni.out w1 (BF.out w1 b1)).1) | (go_at_call 156;refine (HO.out w1 (BF.out w1 b1)).mono ?_;rintro e w2 ⟨rfl,b2⟩) | fail);go_ret;exact ⟨by rw [HF.out];rfl,(mE.out w1 (BF.out w1 b1)).trans (b2.mono (mE.out w1 (BF.out w1 b1)).size)⟩
 | false=>
  go_wp2_with (first | (go_at_call 167;refine AL.out.mono ?_;rintro e w1 ⟨rfl,b1⟩) | fail);go_ret;exact ⟨by rw [HF.out];rfl,mE.out w1 (BF.out w1 b1)⟩):P:=h
end Go.Proofs.YthfnobboalhihaaGreat
namespace Go.Proofs.YthfnobboalhihaaGreat.C
open Go.RowKit Go.Joins
theorem CY:∀(n:Nat) (F:Fo),Fit E F (rep (E 1) n)->∀x∈eU F,x.size<=maxLen
 | 0,F,h,x,hx=>by rw [ai h] at hx;simp [eU] at hx
 | n+1,F,h,x,hx=>by
  replace h:Fit E F (.t ::rep (E 1) n):=h;obtain ⟨y,q,rfl,hy,hq⟩:=aU h;simp only [eU,List.mem_cons] at hx;rcases hx with rfl | hx
  .exact hy
  .exact CY n q hq x hx
theorem lg8 (P:Prop) (m oc:Bool) (n3 n4 kn an:Nat) (ho:oc=true↔P):(n3=0∧m=false∧n4=0∧(kn=1∨kn=2)∧¬(kn=1∧an=0)∧P)↔(((decide ((kn:Int)=2) || (decide ((kn:Int)=1) && decide ((0:Int) < an))) && oc) && (!(m || decide (0 < n3)) && !decide (0 < n4)))=true:=by
 rw [<- ho]
 cases m <;> cases oc <;> simp <;> omega
theorem w_8 (d:Nd) (au:ByteArray) (cs:List ByteArray) (nm:ByteArray) (mn:Bool) (la na ka aa:Option Addr) (lc nc kn kc an ac:Nat) (lm:List Int) (ns:List ByteArray) (ak:Fo) (W:World) (hh:Wc d 8 nm mn la na ka aa lc nc kn kc an ac lm ns (aV ak) W) (hak:Fit E ak (rep (E 2) an)) (hsa:ak.Sub W (λb=>b < W.heap.size) aa an ac) (hsz:ak.size<=16777216) (q:Bool) (hq:q=true↔fA ⟨au,cs,8,nm,mn,lm,ns⟩ kn (aV ak)):
  Calls Tryz.prog 171 #[.agg #[d.ptr]] W λe W'=>e=.returned (.bool q)∧Below W.heap.size W W':=by
 obtain ⟨hc,hb,hl,hn,hmx,hnz,hkn,ed,hal,hnm⟩:=hh;rw [Cv,hal] at hq;obtain ⟨n3,aD⟩:∃n,n=lm.length:=⟨_,rfl⟩
 obtain ⟨n4,aC⟩:∃n,n=ns.length:=⟨_,rfl⟩
 have el:lm=[]↔n3=0:=by rw [aD];exact List.length_eq_zero_iff.symm
 have es:ns=[]↔n4=0:=by rw [aC];exact List.length_eq_zero_iff.symm
 rw [el,es] at hq;rw [<- aD,<- aC] at hc;simp only [Nd.ptr];obtain ⟨r,hr⟩:∃r,r=only 25 (!nm.toList.isEmpty) (mn || decide (0 < n3)) (decide (0 < n4)) (decide (0 < kn)) (decide (0 < an)):=⟨_,rfl⟩
 obtain ⟨V0,bE⟩:∃V,W.alloc (.cells #[.pointer (some ⟨d.b,d.o,none⟩)] 125)=V:=⟨_,rfl⟩
 have b0:Below W.heap.size W V0:=by rw [<- bE];exact below_alloc1 _ _
 have z0:V0.heap.size=W.heap.size+1:=by rw [<- bE];simp
 have hbx:V0.cell? ⟨W.heap.size,0,none⟩=some (.pointer (some ⟨d.b,d.o,none⟩)):=by rw [<- bE];simp
 have hBW:∀V,Kept (λc=>c < V0.heap.size) V0 V->Below W.heap.size W V:=λV k=>Below.kept b0 k (λc hc=>by show c < _;omega) (Nat.le_refl _)
 have ni:Hid (∀V,Kept (λc=>c < V0.heap.size) V0 V->V.cell? ⟨W.heap.size,0,none⟩=some (.pointer (some ⟨d.b,d.o,none⟩))∧V.cell? ⟨d.b,d.o+5,none⟩=some (.slice ka kn kc)∧V.cell? ⟨d.b,d.o+6,none⟩=some (.slice aa an ac)):=λV k=>⟨(k.cell (p:=⟨W.heap.size,0,none⟩) (by show W.heap.size < _;omega) (by show W.heap.size < _;omega)).trans hbx,(hc.below (hBW V k) hb) 5 _ rfl,(hc.below (hBW V k) hb) 6 _ rfl⟩
 have HO:=hide (λV (k:Kept (λc=>c < V0.heap.size) V0 V)=>lV 25 d 8 nm mn la na ka aa n3 lc n4 nc kn kc an ac V (hc.below (hBW V k) hb) (Nat.lt_of_lt_of_le hb (hBW V k).size) r hr);simp only [Nd.ptr] at HO;have Ad:Hid (∀V,Kept (λc=>c < V0.heap.size) V0 V->Rd E (E 2) an W.heap.size aa 0 ak V):=λV k=>((Rd.start hak hsa).below b0 (Nat.le_refl _)).kept k (by omega) (λc hc=>by show c < _;omega)
 have mE:=hide hBW;have HZ0:=hide z0;have mJ:Hid (KW V0 V0 (.slice none 0 0) []):=⟨⟨rfl,.inl ⟨rfl,rfl⟩⟩,(λc hc=>absurd (show (none:Option Nat)=some c from hc) (by simp)),Kept.refl _ _⟩
 rw [O3] at hr;have HQ:Hid (∀oc:Bool,(oc=true↔((∀c∈(aV ak).cons,¬c=⟨#[]⟩)∧(aV ak).ry∧(aV ak).cons.Nodup))->q=(((decide ((kn:Int)=2) || (decide ((kn:Int)=1) && decide ((0:Int) < an))) && oc) && r)):=λoc ho=>Bool.eq_iff_iff.2 (hq.trans (by rw [hr];exact lg8 _ _ _ _ _ _ _ ho))
 have gP:=hide bE;have c0:=(ni.out V0 (Kept.refl _ _)).1;have c5:=(ni.out V0 (Kept.refl _ _)).2.1;have c6:=(ni.out V0 (Kept.refl _ _)).2.2;clear bE b0 z0 hbx hBW hq hr el es aD aC hc hl hn hal hnz hnm hak hsa hb;go_enter Tryz.func171,Tryz.ntmps171
 go_upto_region 1 with fail
 rw [gP.out];clear gP;go_wp2_with fail
 go_loopw [3,14] (λs3 Wd wr=>∃(i:Nat) (r:Fo) (L:List ByteArray) (a:Option Addr) (n c:Nat),s3=.slice a n c∧Wd=.int .i64 i∧i<=an∧Hid (n=L.length∧L.length=i∧r.size<=ak.size)∧Hid (L++(aV r).cons=(aV ak).cons∧((aV ak).ry↔(aV r).ry)∧∀c∈L,c.size<=maxLen)∧Hid (Rd E (E 2) an W.heap.size aa i r wr)∧Hid (KW V0 wr (.slice a n c) L)) (λ_ Wd _=>an - (intOf Wd).toNat)
 case atStart=>exact ⟨0,ak,[],_,_,_,rfl,rfl,Nat.zero_le _,⟨rfl,rfl,Nat.le_refl _⟩,⟨rfl,Iff.rfl,λc hc=>absurd hc List.not_mem_nil⟩,Ad.out _ mJ.out.kp,mJ⟩
 case round=>
  clear c0 c5 c6 mJ;obtain ⟨i,rw_,L,xA,n,c,rfl,rfl,hin,hlen,hinv,iT,hKW⟩:=hrel
  by_cases hi:i < an
  .obtain ⟨x,rr,b,o,rfl,hx,rfl,hb,hcy,hxs,dx⟩:=iT.out.next hi (by decide)
   obtain ⟨au,ca,cn,cc,ck,y,rfl,hcz,hck,hy,e1,e2,-⟩:=O4 hx rr;obtain ⟨k8,EB,EC,ED,EE,EF,lk8,EG,EH,EI,nk8,EJ,EK,EL,kk8,EM,EN,EO,ak8,rfl,-⟩:=ag hy;obtain ⟨g1,g2,g3⟩:=hinv.out;rw [e1] at g1;rw [e2] at g2;have hii:(i:Int) < an:=by omega
   have hzz:=hlen.out.2.2;rw [Fo.aM] at hzz;simp only [Fo.size] at hzz;have hkz:V0.heap.size<=wr.heap.size:=hKW.out.kp.size;have hz0:=HZ0.out;simp only [Fo.vals] at hcy;have e0:wr.cell? ⟨b,o+i * 9,none⟩=some (.string au):=hcy 0 _ rfl;have e1:wr.cell? ⟨b,o+i * 9+1,none⟩=some (.slice ca cn cc):=hcy 1 _ rfl;have e2:wr.cell? ⟨b,o+i * 9+2,none⟩=some (.int .i64 k8):=hcy 2 _ rfl;have e3:wr.cell? ⟨b,o+i * 9+3,none⟩=some (.string EB):=hcy 3 _ rfl;have e4:wr.cell? ⟨b,o+i * 9+4,none⟩=some (.bool EC):=hcy 4 _ rfl;have e5:wr.cell? ⟨b,o+i * 9+5,none⟩=some (.slice ED EE EF):=hcy 5 _ rfl;have e6:wr.cell? ⟨b,o+i * 9+6,none⟩=some (.slice EG EH EI):=hcy 6 _ rfl;have e7:wr.cell? ⟨b,o+i * 9+7,none⟩=some (.slice EJ EK EL):=hcy 7 _ rfl;have e8:wr.cell? ⟨b,o+i * 9+8,none⟩=some (.slice EM EN EO):=hcy 8 _ rfl
   have kB:=below_alloc1 wr (.cells #[.string au,.slice ca cn cc,.int .i64 k8,.string EB,.bool EC,.slice ED EE EF,.slice EG EH EI,.slice EJ EK EL,.slice EM EN EO] 71);obtain ⟨pR,hln⟩:=CX hck hxs.1;have hcn:cn<=16777216:=by
    have h1:=Fit.len hck;rw [dz] at h1;have h2:(E 1).length=1:=rfl;rw [h2] at h1
    have:=ck.fJ
    omega
   obtain ⟨q2,hq2⟩:∃q2:Bool,q2=true↔bC (eU ck):=by
    by_cases h:bC (eU ck)
    .exact ⟨true,by simp only [true_iff];exact h⟩
    .exact ⟨false,by simp only [Bool.false_eq_true,false_iff];exact h⟩
   have HC:=hide (Ak ca cc (eU ck) (wr.alloc (.cells #[.string au,.slice ca cn cc,.int .i64 k8,.string EB,.bool EC,.slice ED EE EF,.slice EG EH EI,.slice EJ EK EL,.slice EM EN EO] 71)) W.heap.size (by have:=kB.size;omega) (by omega) (pR.below kB (λb hb=>by show b < wr.heap.size;omega)) (CY _ _ hck) q2 hq2);rw [hln] at HC;have eO:=hide hq2;have gz:=hide g1;have HG2:=hide g2;have lK:=hide g3;have HR1:=hide dx;have HCZ:=hide hcz;have O5:=hide kB;have HZZ:Hid (rr.size<=ak.size):=by show _<=_;omega
   clear hcy hxs hx hck pR hln hq2 g1 g2 g3 dx hinv iT hy hcz kB hzz;go_wp2_with fail;refine HC.out.mono ?_;rintro e w1 ⟨rfl,b1⟩;clear HC;have fU:=hide ((hKW.out.keep (kt O5.out)).keep (kt b1))
   cases q2 with
   | false=>
    have HF:Hid (q=false):=by
     obtain ⟨oc,ho⟩:∃oc:Bool,oc=true↔((∀c∈(aV ak).cons,¬c=⟨#[]⟩)∧(aV ak).ry∧(aV ak).cons.Nodup):=by
      refine ⟨false,?_⟩;simp only [Bool.false_eq_true,false_iff];intro h;exact absurd (eO.out.2 (HG2.out.1 h.2.1).1) (by simp)
     have hf:oc=false:=by
      cases oc with
      | false=>rfl
      | true=>exact absurd (eO.out.2 (HG2.out.1 (ho.1 rfl).2.1).1) (by simp)
     have h:=HQ.out oc ho;rw [hf,Bool.and_false,Bool.false_and] at h;exact h
    exact zz217
   | true=>
    have p2:w1.cell? ⟨wr.heap.size,0,none⟩=some (.string au):=(b1.cell (p:=⟨wr.heap.size,0,none⟩) (by simp)).trans (by simp);have xg:=hide ((HR1.out.below O5.out (by omega)).below b1 (by have:=O5.out.size;omega));obtain ⟨V5,mZ⟩:∃V,w1.alloc (.cells #[.string au] 9)=V:=⟨_,rfl⟩
    have k5:Kept (λ_=>True) w1 V5:=by rw [<- mZ];exact Kept.alloc _ _ _
    have qm:Hid (V5.heap[w1.heap.size]? =some (.cells [Value.string au].toArray 9)):=by unfold Hid;rw [<- mZ];exact (MapKept.heap_alloc w1 _).1
    have e1:=hlen.out.1;have GL:Hid (V5.ownsRow 0 9 1 (.slice xA n c) n (L.map Value.string)):=by
     have h:=(fU.out.keep k5).own;rw [<- e1] at h;exact h
    have yU:Hid (n+1<=maxLen∧(n+1)* 16<=140737488355328):=by
     have h:=hlen.out.2;unfold Hid maxLen;omega
    have yV:Hid (∀g5 q5 w5,w5.ownsRow 0 9 1 (.slice (some ⟨g5,0,none⟩) (n+1) q5) (n+1) (L.map Value.string++[.string au])->V5.grownBy w5 (Value.slice xA n c).ownBlock->((Value.slice xA n c).ownBlock=some g5∨g5=V5.heap.size)->KW V0 w5 (.slice (some ⟨g5,0,none⟩) (n+1) q5) (L++[au])∧Rd E (E 2) an W.heap.size (some ⟨b,o,none⟩) (i+1) rr w5):=λg5 q5 w5 hO hG hat=>by
     have h:=KW.grow (g:=g5) (cap:=q5) (s:=au) fU.out k5 (by rw [<- e1];exact hO) hG hat;rw [<- e1] at h;refine ⟨h,xg.out.kept (k5.mono (λc _ (_:c < W.heap.size)=>trivial) |>.trans (Kept.grown hG (λc' hc' hlt=>?_))) (by have:=fU.out.kp.size;omega) (λc hc=>hc)⟩
     have:=fU.out.hi c' hc'
     omega
    have O6:Hid (n+1=(L++[au]).length∧(L++[au]).length=i+1∧rr.size<=ak.size):=by
     have h:=hlen.out;refine ⟨by simp;omega,by simp;omega,HZZ.out⟩
    have O7:Hid ((L++[au])++(aV rr).cons=(aV ak).cons∧((aV ak).ry↔(aV rr).ry)∧∀c∈L++[au],c.size<=maxLen):=by
     refine ⟨by rw [<- gz.out];simp,⟨λh=>(HG2.out.1 h).2,λh=>HG2.out.2 ⟨eO.out.1 rfl,h⟩⟩,λc hc=>?_⟩;rcases List.mem_append.1 hc with h | h
     .exact lK.out c h
     .rw [List.mem_singleton.1 h]
      exact HCZ.out
    have HV5:=hide mZ;clear b1 mZ k5 e1 gz HG2 lK hlen;go_wp2_with (at_builtin;rw [HV5.out];refine iB rfl _ _ 25 9 rfl Tryz.info9 Tryz.underlying25 rfl (by decide) 0 V5 (.slice xA n c) n (L.map Value.string) [.string au] w1.heap.size 1 rfl rfl (Nat.zero_le _) GL.out qm.out rfl (by simp [Value.oneCell']) yU.out.1 yU.out.2 ?_;rintro g5 q5 w5 yX yY vk;have o8:=hide (yV.out g5 q5 w5 yX yY vk);clear yX yY vk);go_roundw
    case rel=>exact ⟨i+1,rr,L++[au],_,_,_,rfl,rfl,by omega,O6,O7,o8.out.2,o8.out.1⟩
    case measure=>simp [intOf];omega
  .obtain ⟨rfl,rfl⟩:=iT.out.done hi
   obtain ⟨g1,g2,g3⟩:=hinv.out;rw [gY] at g1 g2;simp only [Tm.cons,List.append_nil] at g1;obtain ⟨oc,hoc⟩:∃oc:Bool,oc=true↔bC L:=by
    by_cases h:bC L
    .exact ⟨true,by simp only [true_iff];exact h⟩
    .exact ⟨false,by simp only [Bool.false_eq_true,false_iff];exact h⟩
   have HF:=hide (HQ.out oc (by
    rw [hoc,<- g1];exact ⟨λh=>⟨h.1,g2.2 trivial,h.2⟩,λh=>⟨h.1,h.2.2⟩⟩))
   have AL:Hid (Calls Tryz.prog 167 #[.slice xA n c] wr λe W'=>e=.returned (.bool oc)∧Below wr.heap.size wr W'):=by
    have h:=hKW.out.own;have e:=hlen.out.1;obtain ⟨a',c',e',-,hs⟩:=JS h
    cases e'
    rw [e];exact Ak xA c L wr wr.heap.size (Nat.le_refl _) (by have:=hlen.out.2.1;omega) hs g3 oc hoc
   obtain ⟨f0,f5,f6⟩:=ni.out wr hKW.out.kp;have hii:¬(i:Int) < i:=by omega
   have BF:Hid (∀w1,Below wr.heap.size wr w1->Kept (λc=>c < V0.heap.size) V0 w1):=λw1 b1=>hKW.out.kp.trans ((kt b1).mono (λ_ _ _=>trivial))
   clear g1 g2 g3 hoc hinv iT hlen
   by_cases k2:(kn:Int)=2
   .rw [decide_eq_true k2,Bool.true_or,Bool.true_and] at HF
    exact zz40
   .rw [decide_eq_false k2,Bool.false_or] at HF
    by_cases k1:(kn:Int)=1∧(0:Int) < i
    .obtain ⟨k1a,k1b⟩:=k1
     rw [decide_eq_true k1a,decide_eq_true k1b,Bool.true_and,Bool.true_and] at HF;have k1n:0 < i:=by omega
     exact zz40
    .have HG:Hid (q=false):=by
      have h:=HF.out;have h2:(decide ((kn:Int)=1) && decide ((0:Int) < i))=false:=by
       rw [Bool.and_eq_false_iff,decide_eq_false_iff_not,decide_eq_false_iff_not];omega
      rw [h2,Bool.false_and,Bool.false_and] at h;exact h
     clear HF
     by_cases k1a:(kn:Int)=1
     .have k1b:¬0 < i:=by omega
      have k1c:¬(0:Int) < i:=by omega
      go_wp2_with fail;go_ret;exact ⟨by rw [HG.out];rfl,mE.out wr hKW.out.kp⟩
     .go_wp2_with fail
      go_ret;exact ⟨by rw [HG.out];rfl,mE.out wr hKW.out.kp⟩
end Go.Proofs.YthfnobboalhihaaGreat.C
namespace Go.Proofs.YthfnobboalhihaaGreat
open Go.RowKit Go.Joins
theorem zz7 {P:Prop} (h:P:=by
 simp only [Nd.ptr];have c0:=(below_alloc1 W (.cells #[.pointer (some ⟨d.b,d.o,none⟩)] 116)).cell (p:=⟨d.b,d.o,none⟩) hb;rw [hc] at c0;go_enter Tryz.func47,Tryz.ntmps47;exact zz20):P:=h
end Go.Proofs.YthfnobboalhihaaGreat
namespace Go.Proofs.YthfnobboalhihaaGreat.C
open Go.RowKit Go.Joins
def Es (k:Int):Nat:=if k=1 then 118 else if k=2 then 119 else if k=3 then 120 else if k=4 then 121 else if k=5 then 122 else if k=6 then 123 else if k=7 then 124 else if k=8 then 125 else if k=9 then 126 else if k=10 then 127 else 116
theorem t_1 (d:Nd) (W:World) (hc:W.cell? ⟨d.b,d.o,none⟩=some (.int .i64 1)) (hb:d.b < W.heap.size):
  Calls Tryz.prog 47 #[d.ptr] W λe W'=>e=.returned (.iface 118 (.agg #[d.ptr]))∧W'=W.alloc (.cells #[d.ptr] 116):=by
 exact zz7
theorem t_2 (d:Nd) (W:World) (hc:W.cell? ⟨d.b,d.o,none⟩=some (.int .i64 2)) (hb:d.b < W.heap.size):
  Calls Tryz.prog 47 #[d.ptr] W λe W'=>e=.returned (.iface 119 (.agg #[d.ptr]))∧W'=W.alloc (.cells #[d.ptr] 116):=by
 exact zz7
theorem t_3 (d:Nd) (W:World) (hc:W.cell? ⟨d.b,d.o,none⟩=some (.int .i64 3)) (hb:d.b < W.heap.size):
  Calls Tryz.prog 47 #[d.ptr] W λe W'=>e=.returned (.iface 120 (.agg #[d.ptr]))∧W'=W.alloc (.cells #[d.ptr] 116):=by
 exact zz7
theorem t_4 (d:Nd) (W:World) (hc:W.cell? ⟨d.b,d.o,none⟩=some (.int .i64 4)) (hb:d.b < W.heap.size):
  Calls Tryz.prog 47 #[d.ptr] W λe W'=>e=.returned (.iface 121 (.agg #[d.ptr]))∧W'=W.alloc (.cells #[d.ptr] 116):=by
 exact zz7
theorem t_5 (d:Nd) (W:World) (hc:W.cell? ⟨d.b,d.o,none⟩=some (.int .i64 5)) (hb:d.b < W.heap.size):
  Calls Tryz.prog 47 #[d.ptr] W λe W'=>e=.returned (.iface 122 (.agg #[d.ptr]))∧W'=W.alloc (.cells #[d.ptr] 116):=by
 exact zz7
theorem t_6 (d:Nd) (W:World) (hc:W.cell? ⟨d.b,d.o,none⟩=some (.int .i64 6)) (hb:d.b < W.heap.size):
  Calls Tryz.prog 47 #[d.ptr] W λe W'=>e=.returned (.iface 123 (.agg #[d.ptr]))∧W'=W.alloc (.cells #[d.ptr] 116):=by
 exact zz7
theorem t_7 (d:Nd) (W:World) (hc:W.cell? ⟨d.b,d.o,none⟩=some (.int .i64 7)) (hb:d.b < W.heap.size):
  Calls Tryz.prog 47 #[d.ptr] W λe W'=>e=.returned (.iface 124 (.agg #[d.ptr]))∧W'=W.alloc (.cells #[d.ptr] 116):=by
 exact zz7
theorem XO (d:Nd) (W:World) (hc:W.cell? ⟨d.b,d.o,none⟩=some (.int .i64 8)) (hb:d.b < W.heap.size):
  Calls Tryz.prog 47 #[d.ptr] W λe W'=>e=.returned (.iface 125 (.agg #[d.ptr]))∧W'=W.alloc (.cells #[d.ptr] 116):=by
 exact zz7
theorem t_9 (d:Nd) (W:World) (hc:W.cell? ⟨d.b,d.o,none⟩=some (.int .i64 9)) (hb:d.b < W.heap.size):
  Calls Tryz.prog 47 #[d.ptr] W λe W'=>e=.returned (.iface 126 (.agg #[d.ptr]))∧W'=W.alloc (.cells #[d.ptr] 116):=by
 exact zz7
theorem XP (d:Nd) (W:World) (hc:W.cell? ⟨d.b,d.o,none⟩=some (.int .i64 10)) (hb:d.b < W.heap.size):
  Calls Tryz.prog 47 #[d.ptr] W λe W'=>e=.returned (.iface 127 (.agg #[d.ptr]))∧W'=W.alloc (.cells #[d.ptr] 116):=by
 exact zz7
theorem Nf (d:Nd) (W:World) (k:Int) (hc:W.cell? ⟨d.b,d.o,none⟩=some (.int .i64 k)) (hb:d.b < W.heap.size) (h1:¬k=1) (h2:¬k=2) (h3:¬k=3) (h4:¬k=4) (h5:¬k=5) (h6:¬k=6) (h7:¬k=7) (h8:¬k=8) (h9:¬k=9) (h10:¬k=10):
  Calls Tryz.prog 47 #[d.ptr] W λe W'=>e=.returned (.iface 116 (.agg #[d.ptr]))∧W'=W.alloc (.cells #[d.ptr] 116):=by
 simp only [Nd.ptr];have c0:=(below_alloc1 W (.cells #[.pointer (some ⟨d.b,d.o,none⟩)] 116)).cell (p:=⟨d.b,d.o,none⟩) hb;rw [hc] at c0;have g1:(k==1)=false:=by rw [beq_eq_false_iff_ne];exact h1
 have g2:(k==2)=false:=by rw [beq_eq_false_iff_ne];exact h2
 have g3:(k==3)=false:=by rw [beq_eq_false_iff_ne];exact h3
 have g4:(k==4)=false:=by rw [beq_eq_false_iff_ne];exact h4
 have g5:(k==5)=false:=by rw [beq_eq_false_iff_ne];exact h5
 have g6:(k==6)=false:=by rw [beq_eq_false_iff_ne];exact h6
 have g7:(k==7)=false:=by rw [beq_eq_false_iff_ne];exact h7
 have g8:(k==8)=false:=by rw [beq_eq_false_iff_ne];exact h8
 have g9:(k==9)=false:=by rw [beq_eq_false_iff_ne];exact h9
 have g10:(k==10)=false:=by rw [beq_eq_false_iff_ne];exact h10
 go_enter Tryz.func47,Tryz.ntmps47;exact zz20
theorem Jw (d:Nd) (W:World) (k:Int) (hc:W.cell? ⟨d.b,d.o,none⟩=some (.int .i64 k)) (hb:d.b < W.heap.size):
  Calls Tryz.prog 47 #[d.ptr] W λe W'=>e=.returned (.iface (Es k) (.agg #[d.ptr]))∧W'=W.alloc (.cells #[d.ptr] 116):=by
 by_cases h1:k=1
 .subst h1;exact t_1 d W hc hb
 by_cases h2:k=2
 .subst h2;exact t_2 d W hc hb
 by_cases h3:k=3
 .subst h3;exact t_3 d W hc hb
 by_cases h4:k=4
 .subst h4;exact t_4 d W hc hb
 by_cases h5:k=5
 .subst h5;exact t_5 d W hc hb
 by_cases h6:k=6
 .subst h6;exact t_6 d W hc hb
 by_cases h7:k=7
 .subst h7;exact t_7 d W hc hb
 by_cases h8:k=8
 .subst h8;exact XO d W hc hb
 by_cases h9:k=9
 .subst h9;exact t_9 d W hc hb
 by_cases h10:k=10
 .subst h10;exact XP d W hc hb
 have e:Es k=116:=by unfold Es;rw [if_neg h1,if_neg h2,if_neg h3,if_neg h4,if_neg h5,if_neg h6,if_neg h7,if_neg h8,if_neg h9,if_neg h10]
 rw [e];exact Nf d W k hc hb h1 h2 h3 h4 h5 h6 h7 h8 h9 h10
end Go.Proofs.YthfnobboalhihaaGreat.C
