import Derived.Test.YthfnobboalhihaaGreatCc
set_option maxHeartbeats 4000000
set_option maxRecDepth 100000
namespace Go.Proofs.YthfnobboalhihaaGreat
open Go.RowKit Go.Joins
theorem zz35 {P:Prop} (h:P:=by
 go_wp2_with fail;go_ret;exact ⟨by rw [HQ.out];rfl,HB.out⟩):P:=h
theorem zz107 {P:Prop} (h:P:=by
 cases hm:mn with
 | true=>exact hq.2 (.inr (.inr ⟨hne,hm⟩))
 | false=>
  cases hqq:q with
  | false=>rfl
  | true=>
   rcases hq.1 hqq with h | ⟨h,-⟩ | ⟨-,h⟩
   .omega
   .exact absurd hne h
   .rw [hm] at h;cases h):P:=h
theorem zz126 {P:Prop} (h:P:=by
 cases hqq:q with
 | false=>rfl
 | true=>
  rcases hq.1 hqq with h | ⟨-,h⟩ | ⟨h,-⟩
  .omega
  .rw [<- hn,hy] at h;exact absurd (Option.some.inj h) g3
  .exact absurd h hne):P:=h
end Go.Proofs.YthfnobboalhihaaGreat
namespace Go.Proofs.YthfnobboalhihaaGreat.C
open Go.RowKit Go.Joins
theorem D8:∀(n:Nat) (F:Fo),Fit E F (rep (E 0) n)->F.vals=(gW F).map (Value.int .u32)∧(gW F).length=n
 | 0,F,h=>by
  have e:=ai h;subst e;exact ⟨rfl,rfl⟩
 | n+1,F,h=>by
  replace h:Fit E F ([.u]++rep (E 0) n):=h;obtain ⟨x,r,rfl,-,h⟩:=jy h;obtain ⟨h1,h2⟩:=D8 n r h;exact ⟨by simp only [Fo.vals,gW,List.map_cons,h1],by simp only [gW,List.length_cons,h2]⟩
structure LR (V:World) (S:Nat->Prop) (a:Option Addr) (c:Nat) (L:List Int):Prop where
 le:L.length<=c
 mx:c<=maxLen
 at_:L≠[]->∃b o,a=some ⟨b,o,none⟩∧S b∧∀i x,L[i]? =some x->V.cell? ⟨b,o+i,none⟩=some (.int .u32 x)
theorem LR.below {A B:World} {S:Nat->Prop} {a:Option Addr} {c m:Nat} {L:List Int} (h:LR A S a c L) (k:Below m A B) (hS:∀b,S b->b < m):LR B S a c L:=
 ⟨h.le,h.mx,λhl=>by
  obtain ⟨b,o,e,s,hc⟩:=h.at_ hl;exact ⟨b,o,e,s,λi x hx=>(k.cell (p:=⟨b,o+i,none⟩) (hS b s)).trans (hc i x hx)⟩⟩
theorem Mk {W:World} {S:Nat->Prop} {a:Option Addr} {n c:Nat} {F:Fo} (hf:Fit E F (rep (E 0) n)) (h:Fo.Sub W S a n c F):LR W S a c (gW F)∧(gW F).length=n:=by
 obtain ⟨h1,h2⟩:=D8 n F hf;exact zz87
def iL (mn:Bool) (lm:List Int):Prop:=40 < lm.length∨(lm≠[]∧lm[lm.length - 1]? =some 0)∨(lm=[]∧mn=true)
theorem Gv (mn:Bool) (a:Option Addr) (c:Nat) (lm:List Int) (W:World) (nb:Nat) (hnb:nb<=W.heap.size) (hs:LR W (λb=>b < nb) a c lm) (q:Bool) (hq:q=true↔iL mn lm):
  Calls Tryz.prog 95 #[.agg #[.bool mn,.slice a lm.length c]] W λe W'=>e=.returned (.bool q)∧Below W.heap.size W W':=by
 obtain ⟨n,hn⟩:∃n,n=lm.length:=⟨_,rfl⟩
 have hmx:n<=9223372036854775807:=by have h2:=hs.le;have h3:=hs.mx;simp only [maxLen] at h3;omega
 have HB:=hide (below_alloc1 W (.cells #[.bool mn,.slice a n c] 31));rw [<- hn]
 by_cases g1:40 < n
 .have HQ:Hid (q=true):=hq.2 (.inl (by omega))
  have g1':(40:Int) < n:=by omega
  clear hq hs hn;go_enter Tryz.func95,Tryz.ntmps95;exact zz35
 have g1':¬(40:Int) < n:=by omega
 by_cases g2:0 < n
 .have hne:lm≠[]:=λe=>by rw [e] at hn;simp at hn;omega
  have hs':=hs.below HB.out (λb hb=>by omega);obtain ⟨b,o,rfl,-,hc⟩:=hs'.at_ hne;obtain ⟨y,hy⟩:∃y,lm[n - 1]? =some y:=⟨_,List.getElem?_eq_getElem (by omega)⟩
  have y0:=hc (n - 1) y hy;obtain ⟨n1,hn1⟩:∃n1,n=n1+1:=⟨n - 1,by omega⟩
  have g2':(0:Int) < n:=by omega
  have g3':¬(n:Int)=0:=by omega
  have e1:n - 1=n1:=by omega
  rw [e1] at y0
  by_cases g3:y=0
  .have HQ:Hid (q=true):=hq.2 (.inr (.inl ⟨hne,by rw [<- hn,hy,g3]⟩))
   have e2:(n:Int) - 1=n1:=by omega
   have e3:(n1:Int) < n:=by omega
   clear hq hs hn hs' hc hy hne hn1 e1;subst g3;go_enter Tryz.func95,Tryz.ntmps95;exact zz35
  .have HQ:Hid (q=false):=by
    exact zz126
   have e2:(n:Int) - 1=n1:=by omega
   have e3:(n1:Int) < n:=by omega
   have Xu:(y==0)=false:=by rw [beq_eq_false_iff_ne];exact g3
   clear hq hs hn hs' hc hy hne hn1 e1;go_enter Tryz.func95,Tryz.ntmps95;exact zz35
 .have e0:n=0:=by omega
  have hne:lm=[]:=List.length_eq_zero_iff.1 (by omega);have HQ:Hid (q=mn):=by
   exact zz107
  clear hq hs hn hne g1 g1';subst e0;go_enter Tryz.func95,Tryz.ntmps95;exact zz35
end Go.Proofs.YthfnobboalhihaaGreat.C
namespace Go.Proofs.YthfnobboalhihaaGreat
open Go.RowKit Go.Joins
theorem zz46 {P:Prop} (h:P:=by
 go_enter Tryz.func176,Tryz.ntmps176;exact zz20):P:=h
theorem zz52 {P:Prop} (h:P:=by
 go_enter Tryz.func98,Tryz.ntmps98;exact zz20):P:=h
end Go.Proofs.YthfnobboalhihaaGreat
namespace Go.Proofs.YthfnobboalhihaaGreat.C
open Go.RowKit Go.Joins
def iM (s:ByteArray):Int:=if (s.toList==[112,114,105,109,65,100,100])=true then 2 else if (s.toList==[112,114,105,109,83,117,98])=true then 2 else if (s.toList==[112,114,105,109,77,117,108])=true then 2 else if (s.toList==[112,114,105,109,68,105,118])=true then 2 else if (s.toList==[112,114,105,109,77,111,100])=true then 2 else if (s.toList==[112,114,105,109,69,113])=true then 2 else if (s.toList==[112,114,105,109,76,101,115,115])=true then 2 else if (s.toList==[112,114,105,109,83,101,113])=true then 2 else if (s.toList==[112,114,105,109,79,114,100])=true then 1 else if (s.toList==[112,114,105,109,67,104,114])=true then 1 else if (s.toList==[112,114,105,109,83,104,111,119])=true then 1 else if (s.toList==[112,114,105,109,69,114,114,111,114])=true then 1 else 0
theorem Uz (s:ByteArray) (W:World):Calls Tryz.prog 98 #[.string s] W λe W'=>e=.returned (.int .i64 (iM s))∧W'=W:=by
 obtain ⟨X,hX⟩:∃X,iM s=X:=⟨_,rfl⟩
 rw [hX];rcases hb0:(s.toList==[112,114,105,109,65,100,100]) with _ | _;rotate_left
 .obtain rfl:2=X:=by rw [<- hX];simp only [iM,hb0,ite_true]
  exact zz52
 rcases hb1:(s.toList==[112,114,105,109,83,117,98]) with _ | _;rotate_left
 .obtain rfl:2=X:=by rw [<- hX];simp only [iM,hb0,hb1,Bool.false_eq_true,ite_false,ite_true]
  exact zz52
 rcases hb2:(s.toList==[112,114,105,109,77,117,108]) with _ | _;rotate_left
 .obtain rfl:2=X:=by rw [<- hX];simp only [iM,hb0,hb1,hb2,Bool.false_eq_true,ite_false,ite_true]
  exact zz52
 rcases hb3:(s.toList==[112,114,105,109,68,105,118]) with _ | _;rotate_left
 .obtain rfl:2=X:=by rw [<- hX];simp only [iM,hb0,hb1,hb2,hb3,Bool.false_eq_true,ite_false,ite_true]
  exact zz52
 rcases hb4:(s.toList==[112,114,105,109,77,111,100]) with _ | _;rotate_left
 .obtain rfl:2=X:=by rw [<- hX];simp only [iM,hb0,hb1,hb2,hb3,hb4,Bool.false_eq_true,ite_false,ite_true]
  exact zz52
 rcases hb5:(s.toList==[112,114,105,109,69,113]) with _ | _;rotate_left
 .obtain rfl:2=X:=by rw [<- hX];simp only [iM,hb0,hb1,hb2,hb3,hb4,hb5,Bool.false_eq_true,ite_false,ite_true]
  exact zz52
 rcases hb6:(s.toList==[112,114,105,109,76,101,115,115]) with _ | _;rotate_left
 .obtain rfl:2=X:=by rw [<- hX];simp only [iM,hb0,hb1,hb2,hb3,hb4,hb5,hb6,Bool.false_eq_true,ite_false,ite_true]
  exact zz52
 rcases vY:(s.toList==[112,114,105,109,83,101,113]) with _ | _;rotate_left
 .obtain rfl:2=X:=by rw [<- hX];simp only [iM,hb0,hb1,hb2,hb3,hb4,hb5,hb6,vY,Bool.false_eq_true,ite_false,ite_true]
  exact zz52
 rcases uV:(s.toList==[112,114,105,109,79,114,100]) with _ | _;rotate_left
 .obtain rfl:1=X:=by rw [<- hX];simp only [iM,hb0,hb1,hb2,hb3,hb4,hb5,hb6,vY,uV,Bool.false_eq_true,ite_false,ite_true]
  exact zz52
 rcases Cn:(s.toList==[112,114,105,109,67,104,114]) with _ | _;rotate_left
 .obtain rfl:1=X:=by rw [<- hX];simp only [iM,hb0,hb1,hb2,hb3,hb4,hb5,hb6,vY,uV,Cn,Bool.false_eq_true,ite_false,ite_true]
  exact zz52
 rcases yL:(s.toList==[112,114,105,109,83,104,111,119]) with _ | _;rotate_left
 .obtain rfl:1=X:=by rw [<- hX];simp only [iM,hb0,hb1,hb2,hb3,hb4,hb5,hb6,vY,uV,Cn,yL,Bool.false_eq_true,ite_false,ite_true]
  exact zz52
 rcases Ea:(s.toList==[112,114,105,109,69,114,114,111,114]) with _ | _;rotate_left
 .obtain rfl:1=X:=by rw [<- hX];simp only [iM,hb0,hb1,hb2,hb3,hb4,hb5,hb6,vY,uV,Cn,yL,Ea,Bool.false_eq_true,ite_false,ite_true]
  exact zz52
 obtain rfl:0=X:=by rw [<- hX];simp only [iM,hb0,hb1,hb2,hb3,hb4,hb5,hb6,vY,uV,Cn,yL,Ea,Bool.false_eq_true,ite_false]
 exact zz52
theorem UA (s:ByteArray) (W:World):Calls Tryz.prog 176 #[.string s] W λe W'=>e=.returned (.int .i64 (iM s))∧W'=W:=by
 obtain ⟨X,hX⟩:∃X,iM s=X:=⟨_,rfl⟩
 rw [hX];rcases hb0:(s.toList==[112,114,105,109,65,100,100]) with _ | _;rotate_left
 .obtain rfl:2=X:=by rw [<- hX];simp only [iM,hb0,ite_true]
  exact zz46
 rcases hb1:(s.toList==[112,114,105,109,83,117,98]) with _ | _;rotate_left
 .obtain rfl:2=X:=by rw [<- hX];simp only [iM,hb0,hb1,Bool.false_eq_true,ite_false,ite_true]
  exact zz46
 rcases hb2:(s.toList==[112,114,105,109,77,117,108]) with _ | _;rotate_left
 .obtain rfl:2=X:=by rw [<- hX];simp only [iM,hb0,hb1,hb2,Bool.false_eq_true,ite_false,ite_true]
  exact zz46
 rcases hb3:(s.toList==[112,114,105,109,68,105,118]) with _ | _;rotate_left
 .obtain rfl:2=X:=by rw [<- hX];simp only [iM,hb0,hb1,hb2,hb3,Bool.false_eq_true,ite_false,ite_true]
  exact zz46
 rcases hb4:(s.toList==[112,114,105,109,77,111,100]) with _ | _;rotate_left
 .obtain rfl:2=X:=by rw [<- hX];simp only [iM,hb0,hb1,hb2,hb3,hb4,Bool.false_eq_true,ite_false,ite_true]
  exact zz46
 rcases hb5:(s.toList==[112,114,105,109,69,113]) with _ | _;rotate_left
 .obtain rfl:2=X:=by rw [<- hX];simp only [iM,hb0,hb1,hb2,hb3,hb4,hb5,Bool.false_eq_true,ite_false,ite_true]
  exact zz46
 rcases hb6:(s.toList==[112,114,105,109,76,101,115,115]) with _ | _;rotate_left
 .obtain rfl:2=X:=by rw [<- hX];simp only [iM,hb0,hb1,hb2,hb3,hb4,hb5,hb6,Bool.false_eq_true,ite_false,ite_true]
  exact zz46
 rcases vY:(s.toList==[112,114,105,109,83,101,113]) with _ | _;rotate_left
 .obtain rfl:2=X:=by rw [<- hX];simp only [iM,hb0,hb1,hb2,hb3,hb4,hb5,hb6,vY,Bool.false_eq_true,ite_false,ite_true]
  exact zz46
 rcases uV:(s.toList==[112,114,105,109,79,114,100]) with _ | _;rotate_left
 .obtain rfl:1=X:=by rw [<- hX];simp only [iM,hb0,hb1,hb2,hb3,hb4,hb5,hb6,vY,uV,Bool.false_eq_true,ite_false,ite_true]
  exact zz46
 rcases Cn:(s.toList==[112,114,105,109,67,104,114]) with _ | _;rotate_left
 .obtain rfl:1=X:=by rw [<- hX];simp only [iM,hb0,hb1,hb2,hb3,hb4,hb5,hb6,vY,uV,Cn,Bool.false_eq_true,ite_false,ite_true]
  exact zz46
 rcases yL:(s.toList==[112,114,105,109,83,104,111,119]) with _ | _;rotate_left
 .obtain rfl:1=X:=by rw [<- hX];simp only [iM,hb0,hb1,hb2,hb3,hb4,hb5,hb6,vY,uV,Cn,yL,Bool.false_eq_true,ite_false,ite_true]
  exact zz46
 rcases Ea:(s.toList==[112,114,105,109,69,114,114,111,114]) with _ | _;rotate_left
 .obtain rfl:1=X:=by rw [<- hX];simp only [iM,hb0,hb1,hb2,hb3,hb4,hb5,hb6,vY,uV,Cn,yL,Ea,Bool.false_eq_true,ite_false,ite_true]
  exact zz46
 obtain rfl:0=X:=by rw [<- hX];simp only [iM,hb0,hb1,hb2,hb3,hb4,hb5,hb6,vY,uV,Cn,yL,Ea,Bool.false_eq_true,ite_false]
 exact zz46
theorem Qv (s:ByteArray):0<=iM s∧iM s<=2:=by
 unfold iM
 repeat' split
 all_goals omega
end Go.Proofs.YthfnobboalhihaaGreat.C
namespace Go.Proofs.YthfnobboalhihaaGreat
open Go.RowKit Go.Joins
theorem zz2 {P:Prop} (h:P:=by
 go_enter Tryz.func61,Tryz.ntmps61;exact zz162):P:=h
theorem zz16 {P:Prop} (h:P:=by
 have HQ:Hid (q=false):=by
  cases hqq:q with
  | false=>rfl
  | true=>exact absurd (hq.1 hqq).1 (by intro e;rw [e] at aD;simp at aD;omega)
 exact zz65):P:=h
theorem zz17 {P:Prop} (h:P:=by
 clear hq aD aC eO;have mM:=hide (HC.out _ HB.out);clear HC;go_enter Tryz.func61,Tryz.ntmps61;go_wp2_with fail;refine mM.out.mono ?_;rintro e w1 ⟨rfl,b1⟩;have HB1:=hide (HB.out.trans (b1.mono HB.out.size));clear b1 mM;go_wp2_with fail;go_ret;exact ⟨by rw [<- HQ.out];rfl,HB1.out⟩):P:=h
theorem zz23 {P:Prop} (h:P:=by
 have HQ:Hid (q=false):=by
  cases hqq:q with
  | false=>rfl
  | true=>exact absurd (hq.1 hqq).2.1 (by simp)
 exact zz65):P:=h
theorem zz26 {P:Prop} (h:P:=by
 have HQ:Hid (q=false):=by
  cases hqq:q with
  | false=>rfl
  | true=>exact absurd (hq.1 hqq).2.2.1 (by omega)
 exact zz65):P:=h
theorem zz27 {P:Prop} (h:P:=by
 simp only [fA];constructor
 .rintro ⟨h1,h2,h3,h4⟩
  simp at h1 h2 h3 h4
  simp_all
 .intro h
  simp_all):P:=h
theorem zz30 {P:Prop} (h:P:=by
 have HQ:Hid (q=false):=by
  cases hqq:q with
  | false=>rfl
  | true=>exact absurd (hq.1 hqq).2.2.2.1 (by intro e;rw [e] at aC;simp at aC;omega)
 exact zz65):P:=h
theorem zz41 {P:Prop} (h:P:=by
 have yJ:(nm.toList==[])=false:=by cases hh:nm.toList with
  | nil=>exact absurd hh g1
  | cons _ _=>rfl
 have HQ:Hid (q=false):=by
  cases hqq:q with
  | false=>rfl
  | true=>exact absurd (hq.1 hqq).2.2.1 (by intro h;exact g1 ((bJ nm).2 h))
 exact zz65):P:=h
theorem zz65 {P:Prop} (h:P:=by
 clear hq aD aC;exact zz2):P:=h
theorem zz67 {P:Prop} (h:P:=by
 have Gw:¬(kn:Int)=0:=by omega
 have HQ:Hid (q=false):=by
  cases hqq:q with
  | false=>rfl
  | true=>exact absurd (hq.1 hqq).2.2.2.1 (by exact g5)
 clear hq aD aC g5;exact zz2):P:=h
theorem zz78 {P:Prop} (h:P:=by
 have HQ:Hid (q=false):=by
  cases hqq:q with
  | false=>rfl
  | true=>exact absurd (hq.1 hqq).2.1 (by intro e;rw [e] at aC;simp at aC;omega)
 exact zz65):P:=h
theorem zz81 {P:Prop} (h:P:=by
 have HQ:Hid (q=false):=by
  cases hqq:q with
  | false=>rfl
  | true=>exact absurd (hq.1 hqq).2.2.2.2.2 (by exact g5)
 clear hq aD aC g5;exact zz2):P:=h
theorem zz95 {P:Prop} (h:P:=by
 have yJ:(nm.toList==[])=false:=by cases hh:nm.toList with
  | nil=>exact absurd hh g1
  | cons _ _=>rfl
 have HQ:Hid (q=false):=by
  cases hqq:q with
  | false=>rfl
  | true=>exact absurd (hq.1 hqq).2.2.2.1 (by intro h;exact g1 ((bJ nm).2 h))
 exact zz65):P:=h
theorem zz105 {P:Prop} (h:P:=by
 rw [aD];exact Gv mn la lc lm V nb (Nat.le_trans hnb bV.size) (hl.below bV (λb hb=>Nat.lt_of_lt_of_le hb hnb)) q2 hq2):P:=h
theorem zz106 {P:Prop} (h:P:=by
 by_cases h:iL mn lm
 .exact ⟨true,by simp [h]⟩
 .exact ⟨false,by simp [h]⟩):P:=h
theorem zz108 {P:Prop} (h:P:=by
 have HQ:Hid (q=false):=by
  cases hqq:q with
  | false=>rfl
  | true=>exact absurd (hq.1 hqq).1 (by omega)
 exact zz65):P:=h
theorem zz148 {P:Prop} (h:P:=by
 have HQ:Hid (q=false):=by
  cases hqq:q with
  | false=>rfl
  | true=>exact absurd (hq.1 hqq).2.2.2.2.1 (by intro h;exact h ((bJ nm).1 g1))
 exact zz65):P:=h
theorem zz159 {P:Prop} (h:P:=by
 cases hqq:q with
 | false=>rfl
 | true=>exact absurd hL (hq.1 hqq).2.2.2.2):P:=h
theorem zz162 {P:Prop} (h:P:=by
 go_wp2_with fail;go_ret;exact ⟨by rw [HQ.out];rfl,below_alloc1 _ _⟩):P:=h
theorem zz186 {P:Prop} (h:P:=by
 rw [aC];exact Az na nc ns V nb (Nat.le_trans hnb bV.size) (hn.below bV (λb hb=>Nat.lt_of_lt_of_le hb hnb)) q2 hq2):P:=h
theorem zz235 {P:Prop} (h:P:=by
 by_cases h:bC ns
 .exact ⟨true,by simp [h]⟩
 .exact ⟨false,by simp [h]⟩):P:=h
theorem zz239 {P:Prop} (h:P:=by
 cases hqq:q with
 | false=>rfl
 | true=>exact absurd (hq.1 hqq).2.2.2.2.2.2 hL):P:=h
end Go.Proofs.YthfnobboalhihaaGreat
namespace Go.Proofs.YthfnobboalhihaaGreat.C
open Go.RowKit Go.Joins
def fA (h:Hd) (kn:Nat) (al:Tm):Prop:=
 (h.k=2∨(h.lm=[]∧h.mn=false))∧(h.k=8∨al.len=0)∧(h.k=6∨h.k=7∨h.ns=[])∧
 ((h.k=1∧¬h.nm=⟨#[]⟩∧kn=0)∨
  (h.k=2∧h.nm=⟨#[]⟩∧kn=0∧¬iL h.mn h.lm)∨
  (h.k=3∧h.nm.size=1∧kn=0)∨
  (h.k=4∧¬h.nm=⟨#[]⟩)∨
  (h.k=10∧¬h.nm=⟨#[]⟩∧h.nm.size<=60000∧kn=0)∨
  (h.k=5∧h.nm=⟨#[]⟩∧2<=kn)∨
  (h.k=6∧h.nm=⟨#[]⟩∧kn=1∧¬h.ns=[]∧bC h.ns)∨
  (h.k=7∧h.nm=⟨#[]⟩∧¬h.ns=[]∧kn=h.ns.length+1∧bC h.ns)∨
  (h.k=8∧(kn=1∨kn=2)∧¬(kn=1∧al.len=0)∧(∀c∈al.cons,¬c=⟨#[]⟩)∧al.ry∧al.cons.Nodup)∨
  (h.k=9∧0 < iM h.nm∧(kn:Int)=iM h.nm))
theorem Ct (au:ByteArray) (cs:List ByteArray) (nm:ByteArray) (mn:Bool) (lm:List Int) (ns:List ByteArray) (kn:Nat) (al:Tm):fA ⟨au,cs,1,nm,mn,lm,ns⟩ kn al↔lm=[]∧mn=false∧al.len=0∧ns=[]∧¬nm=⟨#[]⟩∧kn=0:=by
 exact zz27
theorem Ck (au:ByteArray) (cs:List ByteArray) (nm:ByteArray) (mn:Bool) (lm:List Int) (ns:List ByteArray) (kn:Nat) (al:Tm):fA ⟨au,cs,2,nm,mn,lm,ns⟩ kn al↔al.len=0∧ns=[]∧nm=⟨#[]⟩∧kn=0∧¬iL mn lm:=by
 exact zz27
theorem Nl (au:ByteArray) (cs:List ByteArray) (nm:ByteArray) (mn:Bool) (lm:List Int) (ns:List ByteArray) (kn:Nat) (al:Tm):fA ⟨au,cs,3,nm,mn,lm,ns⟩ kn al↔lm=[]∧mn=false∧al.len=0∧ns=[]∧nm.size=1∧kn=0:=by
 exact zz27
theorem Nn (au:ByteArray) (cs:List ByteArray) (nm:ByteArray) (mn:Bool) (lm:List Int) (ns:List ByteArray) (kn:Nat) (al:Tm):fA ⟨au,cs,4,nm,mn,lm,ns⟩ kn al↔lm=[]∧mn=false∧al.len=0∧ns=[]∧¬nm=⟨#[]⟩:=by
 exact zz27
theorem Np (au:ByteArray) (cs:List ByteArray) (nm:ByteArray) (mn:Bool) (lm:List Int) (ns:List ByteArray) (kn:Nat) (al:Tm):fA ⟨au,cs,5,nm,mn,lm,ns⟩ kn al↔lm=[]∧mn=false∧al.len=0∧ns=[]∧nm=⟨#[]⟩∧2<=kn:=by
 exact zz27
theorem MQ (au:ByteArray) (cs:List ByteArray) (nm:ByteArray) (mn:Bool) (lm:List Int) (ns:List ByteArray) (kn:Nat) (al:Tm):fA ⟨au,cs,6,nm,mn,lm,ns⟩ kn al↔lm=[]∧mn=false∧al.len=0∧nm=⟨#[]⟩∧kn=1∧¬ns=[]∧bC ns:=by
 exact zz27
theorem Nq (au:ByteArray) (cs:List ByteArray) (nm:ByteArray) (mn:Bool) (lm:List Int) (ns:List ByteArray) (kn:Nat) (al:Tm):fA ⟨au,cs,7,nm,mn,lm,ns⟩ kn al↔lm=[]∧mn=false∧al.len=0∧nm=⟨#[]⟩∧¬ns=[]∧kn=ns.length+1∧bC ns:=by
 exact zz27
theorem Cv (au:ByteArray) (cs:List ByteArray) (nm:ByteArray) (mn:Bool) (lm:List Int) (ns:List ByteArray) (kn:Nat) (al:Tm):fA ⟨au,cs,8,nm,mn,lm,ns⟩ kn al↔lm=[]∧mn=false∧ns=[]∧(kn=1∨kn=2)∧¬(kn=1∧al.len=0)∧(∀c∈al.cons,¬c=⟨#[]⟩)∧al.ry∧al.cons.Nodup:=by
 exact zz27
theorem Nk (au:ByteArray) (cs:List ByteArray) (nm:ByteArray) (mn:Bool) (lm:List Int) (ns:List ByteArray) (kn:Nat) (al:Tm):fA ⟨au,cs,9,nm,mn,lm,ns⟩ kn al↔lm=[]∧mn=false∧al.len=0∧ns=[]∧0 < iM nm∧(kn:Int)=iM nm:=by
 exact zz27
theorem Jv (au:ByteArray) (cs:List ByteArray) (nm:ByteArray) (mn:Bool) (lm:List Int) (ns:List ByteArray) (kn:Nat) (al:Tm):fA ⟨au,cs,10,nm,mn,lm,ns⟩ kn al↔lm=[]∧mn=false∧al.len=0∧ns=[]∧¬nm=⟨#[]⟩∧nm.size<=60000∧kn=0:=by
 exact zz27
theorem zk (h:Hd) (kn:Nat) (al:Tm) (h1:¬h.k=1) (h2:¬h.k=2) (h3:¬h.k=3) (h4:¬h.k=4) (h5:¬h.k=5) (h6:¬h.k=6) (h7:¬h.k=7) (h8:¬h.k=8) (h9:¬h.k=9) (h10:¬h.k=10):¬fA h kn al:=by
 simp only [fA];rintro ⟨-,-,-,h⟩
 simp_all
end Go.Proofs.YthfnobboalhihaaGreat.C
