import Derived.Test.YthfnobboalhihaaGreatCf
set_option maxHeartbeats 2000000
set_option maxRecDepth 100000
namespace Go.Proofs.YthfnobboalhihaaGreat.C
open Go.RowKit Go.Joins
theorem YN (nm:ByteArray) (mn:Bool) (la na ka aa:Option Addr) (lc nc kn kc an ac:Nat) (lm:List Int) (ns:List ByteArray) (al:Tm) (W:World) (nb:Nat) (_hnb:nb<=W.heap.size) (hl:LR W (λb=>b < nb) la lc lm) (hn:SR W (λb=>b < nb) na nc ns) (hkn:kn<=maxLen) (ed:an<=maxLen) (hal:al.len=an) (hnm:nm.size<=maxLen) (q:Bool) (hq:q=true↔fA ⟨⟨#[]⟩,[],3,nm,mn,lm,ns⟩ kn al):
  Calls Tryz.prog 61 #[.agg #[.int .i64 3,.string nm,.bool mn,.slice la lm.length lc,.slice na ns.length nc,.slice ka kn kc,.slice aa an ac]] W λe W'=>e=.returned (.bool q)∧Below W.heap.size W W':=by
 rw [Nl] at hq;obtain ⟨n3,aD⟩:∃n,n=lm.length:=⟨_,rfl⟩
 obtain ⟨n4,aC⟩:∃n,n=ns.length:=⟨_,rfl⟩
 have hx3:n3<=9223372036854775807:=by have h2:=hl.le;have h3:=hl.mx;simp only [maxLen] at h3;omega
 have hx4:n4<=9223372036854775807:=by have h2:=hn.le;have h3:=hn.mx;simp only [maxLen] at h3;omega
 have hx5:kn<=9223372036854775807:=hkn;have hx6:an<=9223372036854775807:=ed;have hx1:nm.size<=9223372036854775807:=hnm;have HB:=hide (below_alloc1 W (.cells #[.int .i64 3,.string nm,.bool mn,.slice la n3 lc,.slice na n4 nc,.slice ka kn kc,.slice aa an ac] 35));rw [<- aD,<- aC];clear hl;clear hn
 by_cases g0:0 < n3
 .have g0':(0:Int) < n3:=by omega
  exact zz16
 have e3:n3=0:=by omega
 have hlm:lm=[]:=List.length_eq_zero_iff.1 (by omega);subst e3
 cases mn with
 | true=>
  exact zz23
 | false=>
 by_cases g6:0 < an
 .have yI:(0:Int) < an:=by omega
  exact zz26
 have e6:an=0:=by omega
 subst e6
 by_cases g4:0 < n4
 .have g4':(0:Int) < n4:=by omega
  exact zz30
 have e4:n4=0:=by omega
 have hns:ns=[]:=List.length_eq_zero_iff.1 (by omega);subst e4
 by_cases g7:¬nm.size=1
 .have g7':((nm.size:Int)==1)=false:=by rw [beq_eq_false_iff_ne];omega
  have g7x:¬(nm.size:Int)=1:=by omega
  have HQ:Hid (q=false):=by
   cases hqq:q with
   | false=>rfl
   | true=>exact absurd (hq.1 hqq).2.2.2.2.1 (by exact g7)
  clear hq aD aC g7;exact zz2
 have g7p:nm.size=1:=by omega
 have g7a:(nm.size:Int)=1:=by omega
 have Ru:=hide g7p;clear g7 g7p
 by_cases g5:¬kn=0
 .have Cm:((kn:Int)==0)=false:=by rw [beq_eq_false_iff_ne];omega
  have Gw:¬(kn:Int)=0:=by omega
  exact zz81
 have e5:kn=0:=by omega
 clear g5;subst e5;have HQ:Hid (q=true):=hq.2 ⟨hlm,rfl,by omega,hns,Ru.out,rfl⟩;exact zz65
theorem YO (nm:ByteArray) (mn:Bool) (la na ka aa:Option Addr) (lc nc kn kc an ac:Nat) (lm:List Int) (ns:List ByteArray) (al:Tm) (W:World) (nb:Nat) (_hnb:nb<=W.heap.size) (hl:LR W (λb=>b < nb) la lc lm) (hn:SR W (λb=>b < nb) na nc ns) (hkn:kn<=maxLen) (ed:an<=maxLen) (hal:al.len=an) (hnm:nm.size<=maxLen) (q:Bool) (hq:q=true↔fA ⟨⟨#[]⟩,[],4,nm,mn,lm,ns⟩ kn al):
  Calls Tryz.prog 61 #[.agg #[.int .i64 4,.string nm,.bool mn,.slice la lm.length lc,.slice na ns.length nc,.slice ka kn kc,.slice aa an ac]] W λe W'=>e=.returned (.bool q)∧Below W.heap.size W W':=by
 rw [Nn] at hq;obtain ⟨n3,aD⟩:∃n,n=lm.length:=⟨_,rfl⟩
 obtain ⟨n4,aC⟩:∃n,n=ns.length:=⟨_,rfl⟩
 have hx3:n3<=9223372036854775807:=by have h2:=hl.le;have h3:=hl.mx;simp only [maxLen] at h3;omega
 have hx4:n4<=9223372036854775807:=by have h2:=hn.le;have h3:=hn.mx;simp only [maxLen] at h3;omega
 have hx5:kn<=9223372036854775807:=hkn;have hx6:an<=9223372036854775807:=ed;have hx1:nm.size<=9223372036854775807:=hnm;have HB:=hide (below_alloc1 W (.cells #[.int .i64 4,.string nm,.bool mn,.slice la n3 lc,.slice na n4 nc,.slice ka kn kc,.slice aa an ac] 35));rw [<- aD,<- aC];clear hl;clear hn
 by_cases g0:0 < n3
 .have g0':(0:Int) < n3:=by omega
  exact zz16
 have e3:n3=0:=by omega
 have hlm:lm=[]:=List.length_eq_zero_iff.1 (by omega);subst e3
 cases mn with
 | true=>
  exact zz23
 | false=>
 by_cases g6:0 < an
 .have yI:(0:Int) < an:=by omega
  exact zz26
 have e6:an=0:=by omega
 subst e6
 by_cases g4:0 < n4
 .have g4':(0:Int) < n4:=by omega
  exact zz30
 have e4:n4=0:=by omega
 have hns:ns=[]:=List.length_eq_zero_iff.1 (by omega);subst e4
 by_cases g1:nm.toList=[]
 .have g1':nm.toList.isEmpty=true:=by rw [g1];rfl
  have HQ:Hid (q=false):=by
   cases hqq:q with
   | false=>rfl
   | true=>exact absurd (hq.1 hqq).2.2.2.2 (by intro h;exact h ((bJ nm).1 g1))
  exact zz65
 have D9:nm.toList.isEmpty=false:=by cases hh:nm.toList with
  | nil=>exact absurd hh g1
  | cons _ _=>rfl
 have yJ:(nm.toList==[])=false:=by cases hh:nm.toList with
  | nil=>exact absurd hh g1
  | cons _ _=>rfl
 have OC:¬nm=⟨#[]⟩:=λh=>g1 ((bJ nm).2 h)
 have HQ:Hid (q=true):=hq.2 ⟨hlm,rfl,by omega,hns,OC⟩;exact zz65
theorem YP (nm:ByteArray) (mn:Bool) (la na ka aa:Option Addr) (lc nc kn kc an ac:Nat) (lm:List Int) (ns:List ByteArray) (al:Tm) (W:World) (nb:Nat) (_hnb:nb<=W.heap.size) (hl:LR W (λb=>b < nb) la lc lm) (hn:SR W (λb=>b < nb) na nc ns) (hkn:kn<=maxLen) (ed:an<=maxLen) (hal:al.len=an) (hnm:nm.size<=maxLen) (q:Bool) (hq:q=true↔fA ⟨⟨#[]⟩,[],5,nm,mn,lm,ns⟩ kn al):
  Calls Tryz.prog 61 #[.agg #[.int .i64 5,.string nm,.bool mn,.slice la lm.length lc,.slice na ns.length nc,.slice ka kn kc,.slice aa an ac]] W λe W'=>e=.returned (.bool q)∧Below W.heap.size W W':=by
 rw [Np] at hq;obtain ⟨n3,aD⟩:∃n,n=lm.length:=⟨_,rfl⟩
 obtain ⟨n4,aC⟩:∃n,n=ns.length:=⟨_,rfl⟩
 have hx3:n3<=9223372036854775807:=by have h2:=hl.le;have h3:=hl.mx;simp only [maxLen] at h3;omega
 have hx4:n4<=9223372036854775807:=by have h2:=hn.le;have h3:=hn.mx;simp only [maxLen] at h3;omega
 have hx5:kn<=9223372036854775807:=hkn;have hx6:an<=9223372036854775807:=ed;have hx1:nm.size<=9223372036854775807:=hnm;have HB:=hide (below_alloc1 W (.cells #[.int .i64 5,.string nm,.bool mn,.slice la n3 lc,.slice na n4 nc,.slice ka kn kc,.slice aa an ac] 35));rw [<- aD,<- aC];clear hl;clear hn
 by_cases g0:0 < n3
 .have g0':(0:Int) < n3:=by omega
  exact zz16
 have e3:n3=0:=by omega
 have hlm:lm=[]:=List.length_eq_zero_iff.1 (by omega);subst e3
 cases mn with
 | true=>
  exact zz23
 | false=>
 by_cases g6:0 < an
 .have yI:(0:Int) < an:=by omega
  exact zz26
 have e6:an=0:=by omega
 subst e6
 by_cases g4:0 < n4
 .have g4':(0:Int) < n4:=by omega
  exact zz30
 have e4:n4=0:=by omega
 have hns:ns=[]:=List.length_eq_zero_iff.1 (by omega);subst e4
 by_cases g1:¬nm.toList=[]
 .have D9:nm.toList.isEmpty=false:=by cases hh:nm.toList with
   | nil=>exact absurd hh g1
   | cons _ _=>rfl
  have yJ:(nm.toList==[])=false:=by cases hh:nm.toList with
   | nil=>exact absurd hh g1
   | cons _ _=>rfl
  have HQ:Hid (q=false):=by
   cases hqq:q with
   | false=>rfl
   | true=>exact absurd (hq.1 hqq).2.2.2.2.1 (by intro h;exact g1 ((bJ nm).2 h))
  exact zz65
 have yK:nm=⟨#[]⟩:=(bJ nm).1 (Decidable.not_not.1 g1);clear g1;subst yK
 by_cases g5:¬2<=kn
 .have Cm:¬(2:Int)<=kn:=by omega
  exact zz81
 have ZK:(2:Int)<=kn:=by omega
 clear g5;have HQ:Hid (q=true):=hq.2 ⟨hlm,rfl,by omega,hns,rfl,by omega⟩;exact zz65
theorem YQ (nm:ByteArray) (mn:Bool) (la na ka aa:Option Addr) (lc nc kn kc an ac:Nat) (lm:List Int) (ns:List ByteArray) (al:Tm) (W:World) (nb:Nat) (hnb:nb<=W.heap.size) (hl:LR W (λb=>b < nb) la lc lm) (hn:SR W (λb=>b < nb) na nc ns) (hkn:kn<=maxLen) (ed:an<=maxLen) (hal:al.len=an) (hnm:nm.size<=maxLen) (q:Bool) (hq:q=true↔fA ⟨⟨#[]⟩,[],6,nm,mn,lm,ns⟩ kn al):
  Calls Tryz.prog 61 #[.agg #[.int .i64 6,.string nm,.bool mn,.slice la lm.length lc,.slice na ns.length nc,.slice ka kn kc,.slice aa an ac]] W λe W'=>e=.returned (.bool q)∧Below W.heap.size W W':=by
 rw [MQ] at hq;obtain ⟨n3,aD⟩:∃n,n=lm.length:=⟨_,rfl⟩
 obtain ⟨n4,aC⟩:∃n,n=ns.length:=⟨_,rfl⟩
 have hx3:n3<=9223372036854775807:=by have h2:=hl.le;have h3:=hl.mx;simp only [maxLen] at h3;omega
 have hx4:n4<=9223372036854775807:=by have h2:=hn.le;have h3:=hn.mx;simp only [maxLen] at h3;omega
 have hx5:kn<=9223372036854775807:=hkn;have hx6:an<=9223372036854775807:=ed;have hx1:nm.size<=9223372036854775807:=hnm;obtain ⟨q2,hq2⟩:∃q2:Bool,q2=true↔bC ns:=by
  exact zz235
 have HC:Hid (∀V,Below W.heap.size W V->Calls Tryz.prog 96 #[.slice na n4 nc] V λe W'=>e=.returned (.bool q2)∧Below V.heap.size V W'):=λV bV=>by
  exact zz186
 have eO:=hide hq2;clear hq2;have HB:=hide (below_alloc1 W (.cells #[.int .i64 6,.string nm,.bool mn,.slice la n3 lc,.slice na n4 nc,.slice ka kn kc,.slice aa an ac] 35));rw [<- aD,<- aC];clear hl
 by_cases g0:0 < n3
 .have g0':(0:Int) < n3:=by omega
  exact zz16
 have e3:n3=0:=by omega
 have hlm:lm=[]:=List.length_eq_zero_iff.1 (by omega);subst e3
 cases mn with
 | true=>
  exact zz23
 | false=>
 by_cases g6:0 < an
 .have yI:(0:Int) < an:=by omega
  exact zz26
 have e6:an=0:=by omega
 subst e6
 by_cases g1:¬nm.toList=[]
 .have D9:nm.toList.isEmpty=false:=by cases hh:nm.toList with
   | nil=>exact absurd hh g1
   | cons _ _=>rfl
  exact zz95
 have yK:nm=⟨#[]⟩:=(bJ nm).1 (Decidable.not_not.1 g1);clear g1;subst yK
 by_cases g5:¬kn=1
 .have Cm:((kn:Int)==1)=false:=by rw [beq_eq_false_iff_ne];omega
  have Gw:¬(kn:Int)=1:=by omega
  have HQ:Hid (q=false):=by
   cases hqq:q with
   | false=>rfl
   | true=>exact absurd (hq.1 hqq).2.2.2.2.1 (by exact g5)
  clear hq aD aC g5 HC;exact zz2
 have e5:kn=1:=by omega
 clear g5;subst e5
 by_cases g4:¬0 < n4
 .have g4':¬(1:Int)<=n4:=by omega
  have HQ:Hid (q=false):=by
   cases hqq:q with
   | false=>rfl
   | true=>exact absurd (hq.1 hqq).2.2.2.2.2.1 (by intro h;exact h (List.length_eq_zero_iff.1 (by omega)))
  have e4:n4=0:=by omega
  clear hq aD aC g4 HC g4';subst e4;exact zz2
 have g4a:(1:Int)<=n4:=by omega
 have VT:¬ns=[]:=λe=>by rw [e] at aC;simp at aC;omega
 have g4c:0 < n4:=by omega
 clear g4;have HQ:Hid (q2=q):=by
  show q2=q;have h4:=eO.out
  by_cases hL:bC ns
  .rw [h4.2 hL,hq.2 ⟨hlm,rfl,by omega,rfl,rfl,VT,hL⟩]
  .cases q2 with
   | true=>exact absurd (h4.1 rfl) hL
   | false=>
    exact zz239
 exact zz17
end Go.Proofs.YthfnobboalhihaaGreat.C
