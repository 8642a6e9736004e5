import Derived.Test.YthfnobboalhihaaGreatCf
set_option maxHeartbeats 2000000
set_option maxRecDepth 100000
namespace Go.Proofs.YthfnobboalhihaaGreat.C
open Go.RowKit Go.Joins
theorem YM (nm:ByteArray) (mn:Bool) (la na ka aa:Option Addr) (lc nc kn kc an ac:Nat) (lm:List Int) (ns:List ByteArray) (al:Tm) (W:World) (nb:Nat) (_hnb:nb<=W.heap.size) (hl:LR W (λb=>b < nb) la lc lm) (hn:SR W (λb=>b < nb) na nc ns) (hkn:kn<=maxLen) (ed:an<=maxLen) (hal:al.len=an) (hnm:nm.size<=maxLen) (q:Bool) (hq:q=true↔fA ⟨⟨#[]⟩,[],1,nm,mn,lm,ns⟩ kn al):
  Calls Tryz.prog 61 #[.agg #[.int .i64 1,.string nm,.bool mn,.slice la lm.length lc,.slice na ns.length nc,.slice ka kn kc,.slice aa an ac]] W λe W'=>e=.returned (.bool q)∧Below W.heap.size W W':=by
 rw [Ct] at hq;obtain ⟨n3,aD⟩:∃n,n=lm.length:=⟨_,rfl⟩
 obtain ⟨n4,aC⟩:∃n,n=ns.length:=⟨_,rfl⟩
 have hx3:n3<=9223372036854775807:=by have h2:=hl.le;have h3:=hl.mx;simp only [maxLen] at h3;omega
 have hx4:n4<=9223372036854775807:=by have h2:=hn.le;have h3:=hn.mx;simp only [maxLen] at h3;omega
 have hx5:kn<=9223372036854775807:=hkn;have hx6:an<=9223372036854775807:=ed;have hx1:nm.size<=9223372036854775807:=hnm;have HB:=hide (below_alloc1 W (.cells #[.int .i64 1,.string nm,.bool mn,.slice la n3 lc,.slice na n4 nc,.slice ka kn kc,.slice aa an ac] 35));rw [<- aD,<- aC];clear hl;clear hn
 by_cases g0:0 < n3
 .have g0':(0:Int) < n3:=by omega
  exact zz16
 have e3:n3=0:=by omega
 have hlm:lm=[]:=List.length_eq_zero_iff.1 (by omega);subst e3
 cases mn with
 | true=>
  exact zz23
 | false=>
 by_cases g6:0 < an
 .have yI:(0:Int) < an:=by omega
  exact zz26
 have e6:an=0:=by omega
 subst e6
 by_cases g4:0 < n4
 .have g4':(0:Int) < n4:=by omega
  exact zz30
 have e4:n4=0:=by omega
 have hns:ns=[]:=List.length_eq_zero_iff.1 (by omega);subst e4
 by_cases g1:nm.toList=[]
 .have g1':nm.toList.isEmpty=true:=by rw [g1];rfl
  exact zz148
 have D9:nm.toList.isEmpty=false:=by cases hh:nm.toList with
  | nil=>exact absurd hh g1
  | cons _ _=>rfl
 have yJ:(nm.toList==[])=false:=by cases hh:nm.toList with
  | nil=>exact absurd hh g1
  | cons _ _=>rfl
 have OC:¬nm=⟨#[]⟩:=λh=>g1 ((bJ nm).2 h)
 by_cases g5:¬kn=0
 .have Cm:((kn:Int)==0)=false:=by rw [beq_eq_false_iff_ne];omega
  have Gw:¬(kn:Int)=0:=by omega
  exact zz81
 have e5:kn=0:=by omega
 clear g5;subst e5;have HQ:Hid (q=true):=hq.2 ⟨hlm,rfl,by omega,hns,OC,rfl⟩;exact zz65
theorem Vo (nm:ByteArray) (mn:Bool) (la na ka aa:Option Addr) (lc nc kn kc an ac:Nat) (lm:List Int) (ns:List ByteArray) (al:Tm) (W:World) (nb:Nat) (hnb:nb<=W.heap.size) (hl:LR W (λb=>b < nb) la lc lm) (hn:SR W (λb=>b < nb) na nc ns) (hkn:kn<=maxLen) (ed:an<=maxLen) (hal:al.len=an) (hnm:nm.size<=maxLen) (q:Bool) (hq:q=true↔fA ⟨⟨#[]⟩,[],2,nm,mn,lm,ns⟩ kn al) (hv:0 < lm.length):
  Calls Tryz.prog 61 #[.agg #[.int .i64 2,.string nm,.bool mn,.slice la lm.length lc,.slice na ns.length nc,.slice ka kn kc,.slice aa an ac]] W λe W'=>e=.returned (.bool q)∧Below W.heap.size W W':=by
 rw [Ck] at hq;obtain ⟨n3,aD⟩:∃n,n=lm.length:=⟨_,rfl⟩
 obtain ⟨n4,aC⟩:∃n,n=ns.length:=⟨_,rfl⟩
 have hx3:n3<=9223372036854775807:=by have h2:=hl.le;have h3:=hl.mx;simp only [maxLen] at h3;omega
 have hx4:n4<=9223372036854775807:=by have h2:=hn.le;have h3:=hn.mx;simp only [maxLen] at h3;omega
 have hx5:kn<=9223372036854775807:=hkn;have hx6:an<=9223372036854775807:=ed;have hx1:nm.size<=9223372036854775807:=hnm;obtain ⟨q2,hq2⟩:∃q2:Bool,q2=true↔iL mn lm:=by
  exact zz106
 have HC:Hid (∀V,Below W.heap.size W V->Calls Tryz.prog 95 #[.agg #[.bool mn,.slice la n3 lc]] V λe W'=>e=.returned (.bool q2)∧Below V.heap.size V W'):=λV bV=>by
  exact zz105
 have eO:=hide hq2;clear hq2;have HB:=hide (below_alloc1 W (.cells #[.int .i64 2,.string nm,.bool mn,.slice la n3 lc,.slice na n4 nc,.slice ka kn kc,.slice aa an ac] 35));rw [<- aD,<- aC];have g0:0 < n3:=by omega
 have g0':(0:Int) < n3:=by omega
 clear hv;clear hn
 by_cases g6:0 < an
 .have yI:(0:Int) < an:=by omega
  exact zz108
 have e6:an=0:=by omega
 subst e6
 by_cases g4:0 < n4
 .have g4':(0:Int) < n4:=by omega
  exact zz78
 have e4:n4=0:=by omega
 have hns:ns=[]:=List.length_eq_zero_iff.1 (by omega);subst e4
 by_cases g1:¬nm.toList=[]
 .have D9:nm.toList.isEmpty=false:=by cases hh:nm.toList with
   | nil=>exact absurd hh g1
   | cons _ _=>rfl
  exact zz41
 have yK:nm=⟨#[]⟩:=(bJ nm).1 (Decidable.not_not.1 g1);clear g1;subst yK
 by_cases g5:¬kn=0
 .have Cm:((kn:Int)==0)=false:=by rw [beq_eq_false_iff_ne];omega
  exact zz67
 have e5:kn=0:=by omega
 clear g5;subst e5;have HQ:Hid ((!q2)=q):=by
  show (!q2)=q;have h4:=eO.out
  by_cases hL:iL mn lm
  .rw [h4.2 hL]
   exact zz159
  .cases q2 with
   | true=>exact absurd (h4.1 rfl) hL
   | false=>exact (hq.2 ⟨by omega,hns,rfl,rfl,hL⟩).symm
 exact zz17
theorem Vn (nm:ByteArray) (mn:Bool) (la na ka aa:Option Addr) (lc nc kn kc an ac:Nat) (lm:List Int) (ns:List ByteArray) (al:Tm) (W:World) (nb:Nat) (hnb:nb<=W.heap.size) (hl:LR W (λb=>b < nb) la lc lm) (hn:SR W (λb=>b < nb) na nc ns) (hkn:kn<=maxLen) (ed:an<=maxLen) (hal:al.len=an) (hnm:nm.size<=maxLen) (q:Bool) (hq:q=true↔fA ⟨⟨#[]⟩,[],2,nm,mn,lm,ns⟩ kn al) (hv:lm.length=0) (hm:mn=true):
  Calls Tryz.prog 61 #[.agg #[.int .i64 2,.string nm,.bool mn,.slice la lm.length lc,.slice na ns.length nc,.slice ka kn kc,.slice aa an ac]] W λe W'=>e=.returned (.bool q)∧Below W.heap.size W W':=by
 rw [Ck] at hq;obtain ⟨n3,aD⟩:∃n,n=lm.length:=⟨_,rfl⟩
 obtain ⟨n4,aC⟩:∃n,n=ns.length:=⟨_,rfl⟩
 have hx3:n3<=9223372036854775807:=by have h2:=hl.le;have h3:=hl.mx;simp only [maxLen] at h3;omega
 have hx4:n4<=9223372036854775807:=by have h2:=hn.le;have h3:=hn.mx;simp only [maxLen] at h3;omega
 have hx5:kn<=9223372036854775807:=hkn;have hx6:an<=9223372036854775807:=ed;have hx1:nm.size<=9223372036854775807:=hnm;obtain ⟨q2,hq2⟩:∃q2:Bool,q2=true↔iL mn lm:=by
  exact zz106
 have HC:Hid (∀V,Below W.heap.size W V->Calls Tryz.prog 95 #[.agg #[.bool mn,.slice la n3 lc]] V λe W'=>e=.returned (.bool q2)∧Below V.heap.size V W'):=λV bV=>by
  exact zz105
 have eO:=hide hq2;clear hq2;have HB:=hide (below_alloc1 W (.cells #[.int .i64 2,.string nm,.bool mn,.slice la n3 lc,.slice na n4 nc,.slice ka kn kc,.slice aa an ac] 35));rw [<- aD,<- aC];have e3:n3=0:=by omega
 subst e3;subst hm;clear hv;clear hn
 by_cases g6:0 < an
 .have yI:(0:Int) < an:=by omega
  exact zz108
 have e6:an=0:=by omega
 subst e6
 by_cases g4:0 < n4
 .have g4':(0:Int) < n4:=by omega
  exact zz78
 have e4:n4=0:=by omega
 have hns:ns=[]:=List.length_eq_zero_iff.1 (by omega);subst e4
 by_cases g1:¬nm.toList=[]
 .have D9:nm.toList.isEmpty=false:=by cases hh:nm.toList with
   | nil=>exact absurd hh g1
   | cons _ _=>rfl
  exact zz41
 have yK:nm=⟨#[]⟩:=(bJ nm).1 (Decidable.not_not.1 g1);clear g1;subst yK
 by_cases g5:¬kn=0
 .have Cm:((kn:Int)==0)=false:=by rw [beq_eq_false_iff_ne];omega
  exact zz67
 have e5:kn=0:=by omega
 clear g5;subst e5;have HQ:Hid ((!q2)=q):=by
  show (!q2)=q;have h4:=eO.out
  by_cases hL:iL true lm
  .rw [h4.2 hL]
   exact zz159
  .cases q2 with
   | true=>exact absurd (h4.1 rfl) hL
   | false=>exact (hq.2 ⟨by omega,hns,rfl,rfl,hL⟩).symm
 exact zz17
theorem Uy (nm:ByteArray) (mn:Bool) (la na ka aa:Option Addr) (lc nc kn kc an ac:Nat) (lm:List Int) (ns:List ByteArray) (al:Tm) (W:World) (nb:Nat) (hnb:nb<=W.heap.size) (hl:LR W (λb=>b < nb) la lc lm) (hn:SR W (λb=>b < nb) na nc ns) (hkn:kn<=maxLen) (ed:an<=maxLen) (hal:al.len=an) (hnm:nm.size<=maxLen) (q:Bool) (hq:q=true↔fA ⟨⟨#[]⟩,[],2,nm,mn,lm,ns⟩ kn al) (hv:lm.length=0) (hm:mn=false):
  Calls Tryz.prog 61 #[.agg #[.int .i64 2,.string nm,.bool mn,.slice la lm.length lc,.slice na ns.length nc,.slice ka kn kc,.slice aa an ac]] W λe W'=>e=.returned (.bool q)∧Below W.heap.size W W':=by
 rw [Ck] at hq;obtain ⟨n3,aD⟩:∃n,n=lm.length:=⟨_,rfl⟩
 obtain ⟨n4,aC⟩:∃n,n=ns.length:=⟨_,rfl⟩
 have hx3:n3<=9223372036854775807:=by have h2:=hl.le;have h3:=hl.mx;simp only [maxLen] at h3;omega
 have hx4:n4<=9223372036854775807:=by have h2:=hn.le;have h3:=hn.mx;simp only [maxLen] at h3;omega
 have hx5:kn<=9223372036854775807:=hkn;have hx6:an<=9223372036854775807:=ed;have hx1:nm.size<=9223372036854775807:=hnm;obtain ⟨q2,hq2⟩:∃q2:Bool,q2=true↔iL mn lm:=by
  exact zz106
 have HC:Hid (∀V,Below W.heap.size W V->Calls Tryz.prog 95 #[.agg #[.bool mn,.slice la n3 lc]] V λe W'=>e=.returned (.bool q2)∧Below V.heap.size V W'):=λV bV=>by
  exact zz105
 have eO:=hide hq2;clear hq2;have HB:=hide (below_alloc1 W (.cells #[.int .i64 2,.string nm,.bool mn,.slice la n3 lc,.slice na n4 nc,.slice ka kn kc,.slice aa an ac] 35));rw [<- aD,<- aC];have e3:n3=0:=by omega
 subst e3;subst hm;clear hv;clear hn
 by_cases g6:0 < an
 .have yI:(0:Int) < an:=by omega
  exact zz108
 have e6:an=0:=by omega
 subst e6
 by_cases g4:0 < n4
 .have g4':(0:Int) < n4:=by omega
  exact zz78
 have e4:n4=0:=by omega
 have hns:ns=[]:=List.length_eq_zero_iff.1 (by omega);subst e4
 by_cases g1:¬nm.toList=[]
 .have D9:nm.toList.isEmpty=false:=by cases hh:nm.toList with
   | nil=>exact absurd hh g1
   | cons _ _=>rfl
  exact zz41
 have yK:nm=⟨#[]⟩:=(bJ nm).1 (Decidable.not_not.1 g1);clear g1;subst yK
 by_cases g5:¬kn=0
 .have Cm:((kn:Int)==0)=false:=by rw [beq_eq_false_iff_ne];omega
  exact zz67
 have e5:kn=0:=by omega
 clear g5;subst e5;have HQ:Hid ((!q2)=q):=by
  show (!q2)=q;have h4:=eO.out
  by_cases hL:iL false lm
  .rw [h4.2 hL]
   exact zz159
  .cases q2 with
   | true=>exact absurd (h4.1 rfl) hL
   | false=>exact (hq.2 ⟨by omega,hns,rfl,rfl,hL⟩).symm
 exact zz17
end Go.Proofs.YthfnobboalhihaaGreat.C
