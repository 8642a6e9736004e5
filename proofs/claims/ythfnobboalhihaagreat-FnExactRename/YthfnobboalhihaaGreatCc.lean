import Derived.Test.YthfnobboalhihaaGreatUw
import Derived.Deep.RegionHeld3
set_option maxHeartbeats 4000000
set_option maxRecDepth 100000
namespace Go.Proofs.YthfnobboalhihaaGreat.C
open Go.RowKit Go.Joins
structure Hd where
 au:ByteArray
 cs:List ByteArray
 k:Int
 nm:ByteArray
 mn:Bool
 lm:List Int
 ns:List ByteArray
inductive Tm where
 | nil:Tm
 | nd (h:Hd) (ks al r:Tm):Tm
def gW:Fo->List Int
 | .v (.int _ x) r=>x ::gW r
 | _=>[]
def eU:Fo->List ByteArray
 | .v (.string x) r=>x ::eU r
 | _=>[]
mutual
def di:Fo->Tm
 | .v (.int _ k) (.v (.string nm) (.v (.bool mn) (.s _ _ _ lk (.s _ _ _ nk (.s _ _ _ kk (.s _ _ _ ak r))))))=>.nd ⟨⟨#[]⟩,[],k,nm,mn,gW lk,eU nk⟩ (di kk) (aV ak) (di r)
 | _=>.nil
def aV:Fo->Tm
 | .v (.string au) (.s _ _ _ ck (.v (.int _ k) (.v (.string nm) (.v (.bool mn) (.s _ _ _ lk (.s _ _ _ nk (.s _ _ _ kk (.s _ _ _ ak r))))))))=>.nd ⟨au,eU ck,k,nm,mn,gW lk,eU nk⟩ (di kk) (aV ak) (aV r)
 | _=>.nil
end
theorem dB:di .nil=.nil:=by rw [di];intros;contradiction
theorem gY:aV .nil=.nil:=by rw [aV];intros;contradiction
theorem eT (k:Int) (nm:ByteArray) (mn:Bool) (la na ka aa:Option Addr) (ln lc nn nc kn kc an ac:Nat) (lk nk kk ak r:Fo):
  di (.v (.int .i64 k) (.v (.string nm) (.v (.bool mn) (.s la ln lc lk (.s na nn nc nk (.s ka kn kc kk (.s aa an ac ak r)))))))=.nd ⟨⟨#[]⟩,[],k,nm,mn,gW lk,eU nk⟩ (di kk) (aV ak) (di r):=by rw [di]
theorem oH (au:ByteArray) (ca:Option Addr) (cn cc:Nat) (ck:Fo) (k:Int) (nm:ByteArray) (mn:Bool) (la na ka aa:Option Addr) (ln lc nn nc kn kc an ac:Nat) (lk nk kk ak r:Fo):
  aV (.v (.string au) (.s ca cn cc ck (.v (.int .i64 k) (.v (.string nm) (.v (.bool mn) (.s la ln lc lk (.s na nn nc nk (.s ka kn kc kk (.s aa an ac ak r)))))))))=.nd ⟨au,eU ck,k,nm,mn,gW lk,eU nk⟩ (di kk) (aV ak) (aV r):=by rw [aV]
def Tm.len:Tm->Nat
 | .nil=>0
 | .nd _ _ _ r=>r.len+1
def Tm.an:Tm->Nat
 | .nil=>0
 | .nd h _ _ r=>h.cs.length+r.an
def Tm.cnt:Tm->Nat
 | .nil=>0
 | .nd h ks al r=>1+h.ns.length+al.an+ks.cnt+al.cnt+r.cnt
def Tm.dep:Tm->Nat
 | .nil=>0
 | .nd _ ks al r=>max (1+max ks.dep al.dep) r.dep
def Tm.sz:Tm->Nat->Int->Option Int
 | .nil,_,L=>some L
 | .nd h ks al r,d,L=>
  if L - 1 - h.ns.length - al.an < 0∨1000 < d then none else
   (ks.sz (d+1) (L - 1 - h.ns.length - al.an)).bind λL2=>(al.sz (d+1) L2).bind λL3=>r.sz d L3
theorem Tm.DT:∀(t:Tm) (d:Nat) (L:Int),0<=L->d<=1001->t.sz d L=if (t.cnt:Int)<=L∧d+t.dep<=1001 then some (L - t.cnt) else none
 | .nil,d,L,h0,hd=>by
  have e1:Tm.nil.cnt=0:=rfl;have e2:Tm.nil.dep=0:=rfl;rw [Tm.sz,if_pos (by omega)];congr 1;omega
 | .nd h ks al r,d,L,h0,hd=>by
  have e1:(Tm.nd h ks al r).cnt=1+h.ns.length+al.an+ks.cnt+al.cnt+r.cnt:=rfl;have e2:(Tm.nd h ks al r).dep=max (1+max ks.dep al.dep) r.dep:=rfl;rw [Tm.sz]
  by_cases g:L - 1 - h.ns.length - al.an < 0∨1000 < d
  .rw [if_pos g,if_neg (by omega)]
  .rw [if_neg g,Tm.DT ks (d+1) _ (by omega) (by omega)]
   by_cases g1:(ks.cnt:Int)<=L - 1 - h.ns.length - al.an∧d+1+ks.dep<=1001
   .rw [if_pos g1,Option.bind_some,Tm.DT al (d+1) _ (by omega) (by omega)]
    by_cases g2:(al.cnt:Int)<=L - 1 - h.ns.length - al.an - ks.cnt∧d+1+al.dep<=1001
    .rw [if_pos g2,Option.bind_some,Tm.DT r d _ (by omega) (by omega)]
     by_cases g3:(r.cnt:Int)<=L - 1 - h.ns.length - al.an - ks.cnt - al.cnt∧d+r.dep<=1001
     .rw [if_pos g3,if_pos (by omega)]
      congr 1;omega
     .rw [if_neg g3,if_neg (by omega)]
    .rw [if_neg g2,Option.bind_none,if_neg (by omega)]
   .rw [if_neg g1,Option.bind_none,if_neg (by omega)]
def bC (L:List ByteArray):Prop:=(∀x∈L,x≠⟨#[]⟩)∧L.Nodup
def Tm.cons:Tm->List ByteArray
 | .nil=>[]
 | .nd h _ _ r=>h.au ::r.cons
def Tm.ry:Tm->Prop
 | .nil=>True
 | .nd h _ _ r=>bC h.cs∧r.ry
end Go.Proofs.YthfnobboalhihaaGreat.C
namespace Go.Proofs.YthfnobboalhihaaGreat
open Go.RowKit Go.Joins
theorem zz87 {P:Prop} (h:P:=by
 refine ⟨⟨by rw [h2];exact h.1,h.2.1,λhl=>?_⟩,h2⟩;have hlen:0 < F.len:=by
  rw [<- Fo.aB,h1,List.length_map];exact List.length_pos_iff.2 hl
 obtain ⟨b,o,e,s,hc,-⟩:=h.2.2 hlen;refine ⟨b,o,e,s,λi x hx=>hc i _ ?_⟩;rw [h1,List.getElem?_map,hx];rfl):P:=h
theorem zz231 {P:Prop} (h:P:=by
 by_cases h:L.Nodup
 .exact ⟨false,by simp [h]⟩
 .exact ⟨true,by simp [h]⟩):P:=h
end Go.Proofs.YthfnobboalhihaaGreat
namespace Go.Proofs.YthfnobboalhihaaGreat.C
open Go.RowKit Go.Joins
structure SR (V:World) (S:Nat->Prop) (a:Option Addr) (c:Nat) (L:List ByteArray):Prop where
 le:L.length<=c
 mx:c<=maxLen
 at_:L≠[]->∃b o,a=some ⟨b,o,none⟩∧S b∧∀i x,L[i]? =some x->V.cell? ⟨b,o+i,none⟩=some (.string x)
theorem SR.nil (A:World) (S:Nat->Prop) (a:Option Addr) (c:Nat) (h:c<=maxLen):SR A S a c []:=⟨Nat.zero_le _,h,λhl=>absurd rfl hl⟩
theorem AJ:∀(n:Nat) (F:Fo),Fit E F (rep (E 1) n)->F.vals=(eU F).map Value.string∧(eU F).length=n
 | 0,F,h=>by
  have e:=ai h;subst e;exact ⟨rfl,rfl⟩
 | n+1,F,h=>by
  replace h:Fit E F ([.t]++rep (E 1) n):=h;obtain ⟨x,r,rfl,-,h⟩:=aU h;obtain ⟨h1,h2⟩:=AJ n r h;exact ⟨by simp only [Fo.vals,eU,List.map_cons,h1],by simp only [eU,List.length_cons,h2]⟩
theorem CX {W:World} {S:Nat->Prop} {a:Option Addr} {n c:Nat} {F:Fo} (hf:Fit E F (rep (E 1) n)) (h:Fo.Sub W S a n c F):SR W S a c (eU F)∧(eU F).length=n:=by
 obtain ⟨h1,h2⟩:=AJ n F hf;exact zz87
theorem abo (a:Option Addr) (c:Nat) (L:List ByteArray) (x:ByteArray) (W:World) (S:Nat->Prop) (hs:SR W S a c L) (q:Bool) (hq:q=true↔x∈L):
  Calls Tryz.prog 62 #[.slice a L.length c,.string x] W λe W'=>e=.returned (.bool q)∧Below W.heap.size W W':=by
 obtain ⟨n,hn⟩:∃n,n=L.length:=⟨_,rfl⟩
 rw [<- hn];have hmx:n<=9223372036854775807:=by have h2:=hs.le;have h3:=hs.mx;simp only [maxLen] at h3;omega
 have HS:=hide hs;have HQ:=hide hq;clear hq;have HN:=hide hn;clear hs hn;go_enter Tryz.func62,Tryz.ntmps62;go_wp2_with fail
 go_loopw [5] (λs5 wr=>∃i:Nat,s5=.int .i64 i∧wr=W∧i<=n∧Hid (x∈L↔x∈L.drop i)) (λs5 _=>n - (intOf s5).toNat)
 case atStart=>exact ⟨0,rfl,rfl,Nat.zero_le _,Iff.rfl⟩
 case round=>
  obtain ⟨i,rfl,rfl,hin,Lp⟩:=hrel
  by_cases hi:i < n
  .have hii:(i:Int) < n:=by omega
   have hil:i < L.length:=by rw [<- HN.out];exact hi
   obtain ⟨y,hy⟩:∃y,L[i]? =some y:=⟨_,List.getElem?_eq_getElem hil⟩
   obtain ⟨b,o,rfl,-,hc⟩:=HS.out.at_ (List.length_pos_iff.1 (by omega));have y0:=hc i y hy;have hd:L.drop i=y ::L.drop (i+1):=by
    rw [List.drop_eq_getElem_cons hil];congr 1;exact (List.getElem?_eq_some_iff.1 hy).2
   have hfe:=Lp.out;rw [hd,List.mem_cons] at hfe;clear hc hd hy hil Lp
   by_cases h1:y=x
   .have HT:Hid (q=true):=HQ.out.2 (hfe.2 (.inl h1.symm))
    subst h1;clear hfe;go_wp2_with fail;go_ret;exact ⟨by rw [HT.out];rfl,Below.refl _ _⟩
   .have h1':=E9 h1
    have HT:Hid (x∈L↔x∈L.drop (i+1)):=⟨λh=>(hfe.1 h).resolve_left (λe=>h1 e.symm),λh=>hfe.2 (.inr h)⟩
    clear hfe h1;go_wp2_with fail;go_roundw
    case rel=>exact ⟨i+1,by go_num,trivial,by omega,HT⟩
    case measure=>simp [intOf];omega
  .have HT:Hid (q=false):=by
    cases hqq:q with
    | false=>rfl
    | true=>
     have h2:=Lp.out.1 (HQ.out.1 hqq);rw [List.drop_eq_nil_of_le (by rw [<- HN.out];omega)] at h2;exact absurd h2 List.not_mem_nil
   clear Lp;go_wp2_with fail;go_ret;exact ⟨by rw [HT.out];rfl,Below.refl _ _⟩
theorem SR.below {A B:World} {S:Nat->Prop} {a:Option Addr} {c m:Nat} {L:List ByteArray} (h:SR A S a c L) (k:Below m A B) (hS:∀b,S b->b < m):SR B S a c L:=
 ⟨h.le,h.mx,λhl=>by
  obtain ⟨b,o,e,s,hc⟩:=h.at_ hl;exact ⟨b,o,e,s,λi x hx=>(k.cell (p:=⟨b,o+i,none⟩) (hS b s)).trans (hc i x hx)⟩⟩
theorem qG {L:List ByteArray} {i:Nat} {y:ByteArray} (h:L[i]? =some y):L.take (i+1)=L.take i++[y]:=by
 rw [List.take_add_one,h];rfl
theorem xN {L:List ByteArray} {x:ByteArray}:(L++[x]).Nodup↔L.Nodup∧x∉L:=by
 rw [List.nodup_append];constructor
 .rintro ⟨h1,-,h3⟩
  exact ⟨h1,λhx=>h3 x hx x List.mem_cons_self rfl⟩
 .rintro ⟨h1,h2⟩
  exact ⟨h1,by simp,λa ha b hb e=>by rw [List.mem_singleton.1 hb] at e;exact h2 (e▸ha)⟩
theorem FH (a:Option Addr) (c:Nat) (L:List ByteArray) (W:World) (nb:Nat) (hnb:nb<=W.heap.size) (hs:SR W (λb=>b < nb) a c L) (q:Bool) (hq:q=true↔¬L.Nodup):
  Calls Tryz.prog 97 #[.slice a L.length c] W λe W'=>e=.returned (.bool q)∧Below W.heap.size W W':=by
 obtain ⟨n,hn⟩:∃n,n=L.length:=⟨_,rfl⟩
 rw [<- hn];have hmx:n<=9223372036854775807:=by have h2:=hs.le;have h3:=hs.mx;simp only [maxLen] at h3;omega
 have HS:=hide hs;have HQ:=hide hq;have HB:=hide hnb;have HN:=hide hn;clear hs hn hq hnb;go_enter Tryz.func97,Tryz.ntmps97;go_wp2_with fail
 go_loopw [3] (λs3 wr=>∃i:Nat,s3=.int .i64 i∧i<=n∧Hid ((L.take i).Nodup)∧Hid (Below W.heap.size W wr)) (λs3 _=>n - (intOf s3).toNat)
 case atStart=>exact ⟨0,rfl,Nat.zero_le _,List.nodup_nil,Below.refl _ _⟩
 case round=>
  obtain ⟨i,rfl,hin,hnd,hbw⟩:=hrel
  by_cases hi:i < n
  .have hii:(i:Int) < n:=by omega
   have hil:i < L.length:=by rw [<- HN.out];exact hi
   obtain ⟨y,hy⟩:∃y,L[i]? =some y:=⟨_,List.getElem?_eq_getElem hil⟩
   have HY:=hide hy;clear hy hil;go_wp2_with fail
   go_loopw [4] (λs4 wr=>∃k:Nat,s4=.int .i64 k∧k<=i∧Hid (y∉L.take k)∧Hid (Below W.heap.size W wr)) (λs4 _=>i - (intOf s4).toNat)
   case atStart=>exact ⟨0,rfl,Nat.zero_le _,List.not_mem_nil,hbw⟩
   case round=>
    obtain ⟨k,rfl,hki,hyk,hbr⟩:=hrel
    by_cases hk:k < i
    .have hkk:(k:Int) < i:=by omega
     have hkl:k < L.length:=by rw [<- HN.out];omega
     obtain ⟨z,hz⟩:∃z,L[k]? =some z:=⟨_,List.getElem?_eq_getElem hkl⟩
     have HT:=HS.out.below hbr.out (λb hb=>by have:=HB.out;omega);obtain ⟨b,o,rfl,-,hc⟩:=HT.at_ (List.length_pos_iff.1 (by omega));have y0:=hc i y HY.out;have y1:=hc k z hz;have HZ:=hide hz;have hd:Hid (Below W.heap.size W wr.drew):=hbr.out.drew;have hin':(i:Int) < n:=by omega
     have hkn:(k:Int) < n:=by omega
     have hkn':k < n:=by omega
     clear hc HT hz hkl
     by_cases h1:y=z
     .have HR:Hid (q=true):=HQ.out.2 (λhx=>by
       have h2:=qG HY.out;have h3:(L.take (i+1)).Nodup:=hx.sublist (List.take_sublist _ _);rw [h2,xN] at h3;refine h3.2 ?_;rw [h1];exact List.mem_of_getElem? (i:=k) (by rw [List.getElem?_take_of_lt hk];exact HZ.out))
      have h1':y.toList=z.toList:=by rw [h1]
      clear h1;go_wp2_with fail
      go_region
      all_goals
       go_wp2_with fail;go_ret;exact ⟨by rw [HR.out];rfl,hd.out⟩
     .have h1':=E9 h1
      have HK:Hid (y∉L.take (k+1)):=by
       unfold Hid;rw [qG HZ.out,List.mem_append,List.mem_singleton];rintro (h | h)
       .exact hyk.out h
       .exact h1 h
      clear h1;go_wp2_with fail
      go_region
      all_goals
       go_wp2_with fail;go_roundw
       case rel=>exact ⟨k+1,by go_num,by omega,HK,hd⟩
       case measure=>simp [intOf];omega
    .have hkk:¬(k:Int) < i:=by omega
     have HK:Hid ((L.take (i+1)).Nodup):=by
      unfold Hid;have e:k=i:=by omega
      rw [qG HY.out,xN,<- e];exact ⟨by rw [e];exact hnd.out,hyk.out⟩
     clear hyk hnd;go_wp2_with fail;go_roundw
     case rel=>exact ⟨i+1,by go_num,by omega,HK,hbr⟩
     case measure=>simp [intOf];omega
  .have HT:Hid (q=false):=by
    cases hqq:q with
    | false=>rfl
    | true=>
     have h2:=hnd.out;rw [List.take_of_length_le (by rw [<- HN.out];omega)] at h2;exact absurd h2 (HQ.out.1 hqq)
   clear hnd;go_wp2_with fail;go_ret;exact ⟨by rw [HT.out];rfl,hbw.out⟩
theorem bJ (x:ByteArray):x.toList=[]↔x=⟨#[]⟩:=by
 rw [ByteArray.toList_eq];constructor
 .intro h
  exact ByteArray.ext (Array.ext' h)
 .rintro rfl
  rfl
theorem Dv (L:List ByteArray):bC L↔(∀x∈L,¬x.toList=[])∧L.Nodup:=by
 unfold bC;refine and_congr_left λ_=>forall_congr' λx=>forall_congr' λ_=>?_
 rw [bJ]
theorem Az (a:Option Addr) (c:Nat) (L:List ByteArray) (W:World) (nb:Nat) (hnb:nb<=W.heap.size) (hs:SR W (λb=>b < nb) a c L) (q:Bool) (hq:q=true↔bC L):
  Calls Tryz.prog 96 #[.slice a L.length c] W λe W'=>e=.returned (.bool q)∧Below W.heap.size W W':=by
 rw [Dv] at hq;obtain ⟨q2,hq2⟩:∃q2:Bool,q2=true↔¬L.Nodup:=by
  exact zz231
 have AL:=hide (FH a c L W nb hnb hs q2 hq2);obtain ⟨n,hn⟩:∃n,n=L.length:=⟨_,rfl⟩
 rw [<- hn] at AL ⊢;have hmx:n<=9223372036854775807:=by have h2:=hs.le;have h3:=hs.mx;simp only [maxLen] at h3;omega
 have HS:=hide hs;have HQ:=hide hq;have eO:=hide hq2;have HN:=hide hn;clear hs hn hq hnb hq2;go_enter Tryz.func96,Tryz.ntmps96;go_wp2_with fail
 go_loopw [3] (λs3 wr=>∃i:Nat,s3=.int .i64 i∧i<=n∧wr=W∧Hid (∀x∈L.take i,¬x.toList=[])) (λs3 _=>n - (intOf s3).toNat)
 case atStart=>exact ⟨0,rfl,Nat.zero_le _,rfl,λx hx=>absurd hx List.not_mem_nil⟩
 case round=>
  obtain ⟨i,rfl,hin,rfl,hnd⟩:=hrel
  by_cases hi:i < n
  .have hii:(i:Int) < n:=by omega
   have hil:i < L.length:=by rw [<- HN.out];exact hi
   obtain ⟨y,hy⟩:∃y,L[i]? =some y:=⟨_,List.getElem?_eq_getElem hil⟩
   obtain ⟨b,o,rfl,-,hc⟩:=HS.out.at_ (List.length_pos_iff.1 (by omega));have y0:=hc i y hy;have HY:=hide hy;clear hy hil hc
   by_cases h1:y.toList=[]
   .have HR:Hid (q=false):=by
     cases hqq:q with
     | false=>rfl
     | true=>exact absurd h1 ((HQ.out.1 hqq).1 y (List.mem_of_getElem? HY.out))
    have h2:y.toList.isEmpty=true:=by rw [h1];rfl
    go_wp2_with fail;go_ret;exact ⟨by rw [HR.out];rfl,Below.refl _ _⟩
   .have h2:y.toList.isEmpty=false:=by cases hh:y.toList with
     | nil=>exact absurd hh h1
     | cons _ _=>rfl
    have h3:(y.toList==[])=false:=by cases hh:y.toList with
     | nil=>exact absurd hh h1
     | cons _ _=>rfl
    have HK:Hid (∀x∈L.take (i+1),¬x.toList=[]):=by
     unfold Hid;rw [qG HY.out];intro x hx;rcases List.mem_append.1 hx with h | h
     .exact hnd.out x h
     .rw [List.mem_singleton.1 h];exact h1
    go_wp2_with fail;go_roundw
    case rel=>exact ⟨i+1,by go_num,by omega,trivial,HK⟩
    case measure=>simp [intOf];omega
  .have HT:Hid ((!q2)=q):=by
    have h2:=hnd.out;rw [List.take_of_length_le (by rw [<- HN.out];omega)] at h2;have h3:=HQ.out;have h4:=eO.out
    by_cases hL:L.Nodup
    .rw [h3.2 ⟨h2,hL⟩]
     cases q2 with
     | false=>rfl
     | true=>exact absurd hL (h4.1 rfl)
    .rw [h4.2 hL]
     cases q with
     | false=>rfl
     | true=>exact absurd (h3.1 rfl).2 hL
   clear hnd;go_wp2_with fail;refine AL.out.mono ?_;rintro e w1 ⟨rfl,b1⟩;have HB1:=hide b1;clear b1 AL;go_wp2_with fail;go_ret;exact ⟨by rw [<- HT.out];rfl,HB1.out⟩
theorem Gb (h:Hd) (ks al r:Tm) (d:Nat) (L:Int):(Tm.nd h ks al r).sz d L=((Tm.nd h ks al .nil).sz d L).bind λL'=>r.sz d L':=by
 simp only [Tm.sz]
 by_cases g:L - 1 - h.ns.length - al.an < 0∨1000 < d
 .rw [if_pos g,if_pos g,Option.bind_none]
 .rw [if_neg g,if_neg g]
  cases ks.sz (d+1) (L - 1 - h.ns.length - al.an) with
  | none=>rfl
  | some L2=>
   simp only [Option.bind_some]
   cases al.sz (d+1) L2 with
   | none=>rfl
   | some L3=>rfl
theorem Ar:∀(t:Tm) (d:Nat) (L L':Int),t.sz d L=some L'->0<=L->0<=L'∧L'<=L
 | .nil,_,L,L',h,h0=>by
  simp only [Tm.sz,Option.some.injEq] at h;omega
 | .nd hd ks al r,d,L,L',h,h0=>by
  simp only [Tm.sz] at h
  by_cases g:L - 1 - hd.ns.length - al.an < 0∨1000 < d
  .rw [if_pos g] at h;cases h
  .rw [if_neg g] at h
   cases h1:ks.sz (d+1) (L - 1 - hd.ns.length - al.an) with
   | none=>rw [h1] at h;cases h
   | some L2=>
    rw [h1,Option.bind_some] at h;have e1:=Ar ks _ _ _ h1 (by omega)
    cases h2:al.sz (d+1) L2 with
    | none=>rw [h2] at h;cases h
    | some L3=>
     rw [h2,Option.bind_some] at h;have e2:=Ar al _ _ _ h2 (by omega);have e3:=Ar r _ _ _ h (by omega);omega
theorem ag {x:Fo} (hx:Fit E x (E 3)):∃(k:Int) (nm:ByteArray) (mn:Bool) (la:Option Addr) (ln lc:Nat) (lk:Fo) (na:Option Addr) (nn nc:Nat) (nk:Fo) (ka:Option Addr) (kn kc:Nat) (kk:Fo) (aa:Option Addr) (an ac:Nat) (ak:Fo),
  x=.v (.int .i64 k) (.v (.string nm) (.v (.bool mn) (.s la ln lc lk (.s na nn nc nk (.s ka kn kc kk (.s aa an ac ak .nil))))))∧(Lit.int .i64 k).wf=true∧nm.size<=maxLen∧Fit E lk (rep (E 0) ln)∧Fit E nk (rep (E 1) nn)∧Fit E kk (rep (E 3) kn)∧Fit E ak (rep (E 2) an):=by
 exact zz48
theorem aK {x:Fo} (hx:Fit E x (E 2)):∃(au:ByteArray) (ca:Option Addr) (cn cc:Nat) (ck y:Fo),x=.v (.string au) (.s ca cn cc ck y)∧au.size<=maxLen∧Fit E ck (rep (E 1) cn)∧Fit E y (E 3):=by
 exact zz137
theorem OI {x:Fo} (hx:Fit E x (E 3)) (q:Fo) (d:Nat) (L:Int):(di (x.app q)).sz d L=((di x).sz d L).bind λL'=>(di q).sz d L':=by
 obtain ⟨k,nm,mn,la,ln,lc,lk,na,nn,nc,nk,ka,kn,kc,kk,aa,an,ac,ak,rfl,-⟩:=ag hx;simp only [Fo.app];rw [eT,eT,dB];exact Gb _ _ _ _ _ _
theorem OJ {x:Fo} (hx:Fit E x (E 2)) (q:Fo) (d:Nat) (L:Int):∃(au:ByteArray) (ca:Option Addr) (cn cc:Nat) (ck y:Fo),x=.v (.string au) (.s ca cn cc ck y)∧Fit E ck (rep (E 1) cn)∧Fit E y (E 3)∧(aV (x.app q)).sz d L=((di y).sz d L).bind λL'=>(aV q).sz d L':=by
 obtain ⟨au,ca,cn,cc,ck,y,rfl,-,h1,hy⟩:=aK hx;refine ⟨au,ca,cn,cc,ck,y,rfl,h1,hy,?_⟩;obtain ⟨k,nm,mn,la,ln,lc,lk,na,nn,nc,nk,ka,kn,kc,kk,aa,an,ac,ak,rfl,-⟩:=ag hy;simp only [Fo.app];rw [oH,eT,dB];rw [Gb];rfl
theorem zS {n:Nat} {F:Fo} (h:Fit E F (rep (E 1) n)):(eU F).length=n:=(AJ n F h).2
structure mH (W:World) (b:Nat) (L:Int):Prop where
 cell:W.cell? ⟨b,0,none⟩=some (.int .i64 L)
 live:W.frozen? ⟨b,0,none⟩=false
 lt:b < W.heap.size
theorem mH.set {W:World} {b:Nat} {L:Int} (h:mH W b L) (M:Int):mH (W.setCell ⟨b,0,none⟩ (.int .i64 M)) b M:=
 ⟨World.cell?_setCell_same' _ _ _ (by rw [h.cell];rfl),by rw [World.frozen?_setCell];exact h.live,by simpa [World.setCell] using h.lt⟩
theorem mH.below {A B:World} {b:Nat} {L:Int} (h:mH A b L) (k:Below A.heap.size A B):mH B b L:=
 ⟨(k.cell (p:=⟨b,0,none⟩) h.lt).trans h.cell,(k.frozen (p:=⟨b,0,none⟩) h.lt).trans h.live,Nat.lt_of_lt_of_le h.lt k.size⟩
theorem mH.drew {A:World} {b:Nat} {L:Int} (h:mH A b L):mH A.drew b L:=⟨h.cell,h.live,h.lt⟩
def aa1 (R:Option Int) (lb:Nat) (W:World) (e:Ending) (W':World):Prop:=
 ∃q:Bool,e=.returned (.bool q)∧(q=true->∃L',R=some L'∧mH W' lb L')∧(q=false->R=none)∧Kept (λc=>c≠lb) W W'
def OG (m:Nat):Prop:=∀(F:Fo) (nb:Nat) (W:World) (d:Nat) (L:Int) (lb:Nat),F.size<=m->Fit E F (E 3)->nb<=lb->F.wt<=1048576->F.av W (λc=>c < nb)->mH W lb L->0<=L->L<=20000->d<=1001->
 Calls Tryz.prog 40 #[.agg F.vals.toArray,.int .i64 (d:Int),.pointer (some ⟨lb,0,none⟩)] W (aa1 ((di F).sz d L) lb W)
end Go.Proofs.YthfnobboalhihaaGreat.C
namespace Go.Proofs.YthfnobboalhihaaGreat
open Go.RowKit Go.Joins
theorem zz182 {P:Prop} (h:P:=by
 clear Aq xc k1;go_wp2_with fail;go_ret;exact ⟨false,rfl,λh=>absurd h (by decide),λ_=>HF.out,IK.out w1 xe.out⟩):P:=h
theorem zz220 {P:Prop} (h:P:=by
 go_ret;exact ⟨false,rfl,λh=>absurd h (by decide),λ_=>HF.out,IK.out wr hK.out⟩):P:=h
end Go.Proofs.YthfnobboalhihaaGreat
namespace Go.Proofs.YthfnobboalhihaaGreat.C
open Go.RowKit Go.Joins
theorem vD {x:Fo} (hx:Fit E x (E 2)) (q:Fo):∃(au:ByteArray) (ca:Option Addr) (cn cc:Nat) (ck y:Fo),x=.v (.string au) (.s ca cn cc ck y)∧Fit E ck (rep (E 1) cn)∧Fit E y (E 3)∧(aV (x.app q)).an=cn+(aV q).an∧cn<=x.wt:=by
 obtain ⟨au,ca,cn,cc,ck,y,rfl,-,h1,hy⟩:=aK hx;refine ⟨au,ca,cn,cc,ck,y,rfl,h1,hy,?_,by simp only [Fo.wt];omega⟩;obtain ⟨k,nm,mn,la,ln,lc,lk,na,nn,nc,nk,ka,kn,kc,kk,aa,an,ac,ak,rfl,-⟩:=ag hy;simp only [Fo.app];rw [oH];simp only [Tm.an,zS h1]
theorem IJ:∀(n:Nat) (F:Fo),Fit E F (rep (E 2) n)->(aV F).an<=F.wt
 | 0,F,h=>by rw [ai h,gY];exact Nat.zero_le _
 | n+1,F,h=>by
  obtain ⟨x,q,rfl,hx,hq,-⟩:=Fit.split (fs:=E 2) (gs:=rep (E 2) n) h;obtain ⟨au,ca,cn,cc,ck,y,-,-,-,e,hw⟩:=vD hx q
  have:=IJ n q hq
  rw [e,Fo.dN];omega
theorem Lh (m:Nat) (ih:OG m):OG (m+1):=by
 intro F nb W d L lb hm hf hnb hwt hs hL h0 h1 hd;obtain ⟨k,nm,mn,la,ln,lc,lk,na,nn,nc,nk,ka,kn,kc,kk,aa,an,ac,ak,rfl,-,-,h3,h4,h5,h6⟩:=ag hf;obtain ⟨hs3,hs4,hs5,hs6,-⟩:=hs;simp only [Fo.size] at hm;simp only [Fo.wt,bU] at hwt;simp only [Fo.vals];rw [eT,dB];obtain ⟨R,hR⟩:∃R,(Tm.nd ⟨⟨#[]⟩,[],k,nm,mn,gW lk,eU nk⟩ (di kk) (aV ak) .nil).sz d L=R:=⟨_,rfl⟩
 have hR2:=hR;simp only [Tm.sz,zS h4] at hR2;rw [hR];have hal:=IJ an ak h6;obtain ⟨V0,bE⟩:∃V,W.alloc (.cells #[.int .i64 k,.string nm,.bool mn,.slice la ln lc,.slice na nn nc,.slice ka kn kc,.slice aa an ac] 35)=V:=⟨_,rfl⟩
 have b0:Below W.heap.size W V0:=by rw [<- bE];exact below_alloc1 _ _
 have q0:Bx V0 W.heap.size [.int .i64 k,.string nm,.bool mn,.slice la ln lc,.slice na nn nc,.slice ka kn kc,.slice aa an ac]:=by rw [<- bE];exact Bx.new _ _ _
 have l0:=hL.below b0;have hlt:=hL.lt;have VN:=hide hlt;have c4:V0.cell? ⟨W.heap.size,4,none⟩=some (.slice na nn nc):=q0.ae 4 _ rfl;have cl:=l0.cell;have cf:=l0.live;have HB0:=hide b0;have Di:=hide q0;have wL:=hide l0;have HR:=hide hR;have HR2:=hide hR2;have gP:=hide bE;have ZP:=hide bE;have oC:=hide hs5;have oD:=hide hs6;have hnx:nn<=9223372036854775807:=by have h2:=hs4.1;have h3:=hs4.2.1;simp only [maxLen] at h3;omega
 clear bE b0 q0 l0 hR hR2 hs3 hs4 hs5 hs6 hL hlt h3;go_enter Tryz.func40,Tryz.ntmps40
 go_upto_region 1 with fail
 rw [gP.out];clear gP;have xx:Hid (nb<=W.heap.size∧W.heap.size≠lb∧lb < W.heap.size∧V0.heap.size=W.heap.size+1∧nb<=lb):=by
  have hz:V0.heap.size=W.heap.size+1:=by rw [<- ZP.out];simp
  have:=VN.out
  exact ⟨by omega,by omega,VN.out,hz,hnb⟩
 obtain ⟨V1,hV1⟩:∃V,(V0.setCell ⟨lb,0,none⟩ (.int .i64 (L - 1 - (nn:Int)))).drew=V:=⟨_,rfl⟩
 have fU:Hid (Kept (λc=>c≠lb) V0 V1):=by unfold Hid;rw [<- hV1];exact (Kept.setCell _ _ _ _ (by simp)).trans (Kept.drew _ _)
 have dZ:Hid (mH V1 lb (L - 1 - (nn:Int))):=by unfold Hid;rw [<- hV1];exact (wL.out.set _).drew
 have gD:=hide hV1;clear hV1
 go_region
 rw [gD.out];clear gD cl cf c4;have IK:Hid (∀V,Kept (λc=>c≠lb) V0 V->Kept (λc=>c≠lb) W V):=λV k=>(Kept.of_below HB0.out (λc hc _=>hc)).trans k
 have ni:=hide (λ(V:World) (k:Kept (λc=>c≠lb) V0 V)=>Di.out.kept k xx.out.2.1);have Ad:Hid (∀V,Kept (λc=>c≠lb) V0 V->Rd E (E 2) an nb aa 0 ak V):=λV k=>((Rd.start h6 oD.out).below HB0.out xx.out.1).kept k (by have:=xx.out;omega) (λc hc=>by have:=xx.out;show c≠lb;omega)
 have K8:Hid (∀V,Kept (λc=>c≠lb) V0 V->Rd E (E 3) kn nb ka 0 kk V):=λV k=>((Rd.start h5 oC.out).below HB0.out xx.out.1).kept k (by have:=xx.out;omega) (λc hc=>by have:=xx.out;show c≠lb;omega)
 have hax:an<=9223372036854775807:=by have h2:=oD.out.1;have h3:=oD.out.2.1;simp only [maxLen] at h3;omega
 have hkx:kn<=9223372036854775807:=by have h2:=oC.out.1;have h3:=oC.out.2.1;simp only [maxLen] at h3;omega
 obtain ⟨AN,uE⟩:∃x,(aV ak).an=x:=⟨_,rfl⟩
 have NT:=hide uE;rw [uE] at hal HR2;have HM:=hide hm;clear oC oD uE hm;go_wp2_with fail
 go_loopw [7] (λs7 wr=>∃(i:Nat) (r:Fo) (cur:Int),s7=.int .i64 i∧i<=an∧Hid (cur+AN=L - 1 - nn+(aV r).an∧r.wt<=ak.wt)∧Hid (Rd E (E 2) an nb aa i r wr)∧Hid (Kept (λc=>c≠lb) V0 wr)∧Hid (mH wr lb cur)) (λs7 _=>an - (intOf s7).toNat)
 case atStart=>exact ⟨0,ak,L - 1 - nn,rfl,Nat.zero_le _,⟨by rw [NT.out],Nat.le_refl _⟩,Ad.out V1 fU.out,fU,dZ⟩
 case round=>
  obtain ⟨i,r,cur,rfl,hin,kK,iT,hK,hN⟩:=hrel
  by_cases hi:i < an
  .obtain ⟨x,rr,b,o,rfl,hx,rfl,hb,hc,-,dx⟩:=iT.out.next hi (by decide)
   obtain ⟨au,ca,cn,cc,ck,y,rfl,-,-,ed,hcw⟩:=vD hx rr;have hii:(i:Int) < an:=by omega
   have c6:wr.cell? ⟨W.heap.size,6,none⟩=some (.slice (some ⟨b,o,none⟩) an ac):=(ni.out wr hK.out).ae 6 _ rfl;have cl:=hN.out.cell;have cf:=hN.out.live;have ce:wr.cell? ⟨b,o+i * 9+1,none⟩=some (.slice ca cn cc):=hc 1 _ rfl;obtain ⟨hce,hcl⟩:=kK.out;rw [Fo.dN] at hcl;rw [ed] at hce;have hrl:=IJ _ _ dx.fit;have ZQ:0<=cur+3145728 - cn∧cur - cn<=2000000∧cn<=1048576:=by omega
   clear hrl;have Lf:Hid (cur - cn+AN=L - 1 - nn+(aV rr).an∧rr.wt<=ak.wt):=⟨by omega,by omega⟩
   have HR1:=hide dx;have xe:Hid (Kept (λc=>c≠lb) V0 (wr.setCell ⟨lb,0,none⟩ (.int .i64 (cur - (cn:Int)))).drew):=(hK.out.trans (Kept.setCell _ _ _ _ (by simp))).trans (Kept.drew _ _);have OH:Hid (mH (wr.setCell ⟨lb,0,none⟩ (.int .i64 (cur - (cn:Int)))).drew lb (cur - (cn:Int))):=(hN.out.set _).drew;have xg:Hid (Rd E (E 2) an nb (some ⟨b,o,none⟩) (i+1) rr (wr.setCell ⟨lb,0,none⟩ (.int .i64 (cur - (cn:Int)))).drew):=HR1.out.kept ((Kept.setCell (λc=>c≠lb) _ _ _ (by simp)).trans (Kept.drew _ _)) (by have:=xx.out;have:=hK.out.size;omega) (λc hc=>by have:=xx.out;show c≠lb;omega);clear hc dx hx ed hce hcl kK iT hcw;go_wp2_with fail
   go_region
   go_wp2_with fail;go_roundw
   case rel=>exact ⟨i+1,rr,cur - cn,by go_num,by omega,Lf,xg,xe,OH⟩
   case measure=>simp [intOf];omega
  .obtain ⟨rfl,rfl⟩:=iT.out.done hi
   have hce:=kK.out.1;rw [gY] at hce;have TJ:cur=L - 1 - nn - AN:=by simp only [Tm.an] at hce;omega
   have ZQ:-2097152<=cur∧cur<=20000:=by omega
   have cl:=hN.out.cell;have c6:wr.cell? ⟨W.heap.size,6,none⟩=some (.slice aa i ac):=(ni.out wr hK.out).ae 6 _ rfl;rw [<- TJ] at HR2;clear hce TJ kK iT NT
   by_cases hg:cur < 0∨1000 < d
   .have HF:Hid (R=none):=by rw [if_pos hg] at HR2;exact HR2.out.symm
    clear HR2 HR
    by_cases hg1:cur < 0
    .go_wp2_with fail
     exact zz220
    .have hg2:(1000:Int) < (d:Int):=by omega
     go_wp2_with fail;exact zz220
   .rw [if_neg hg] at HR2
    have hg1:¬cur < 0:=by omega
    have hg2:¬(1000:Int) < (d:Int):=by omega
    have hd1:d+1<=1001:=by omega
    clear hg;go_wp2_with fail
    go_loopw [8] (λs8 wr=>∃(i:Nat) (r:Fo) (u:Int),s8=.int .i64 i∧i<=kn∧Hid ((di r).sz (d+1) u=(di kk).sz (d+1) cur∧r.wt<=kk.wt∧r.size<=kk.size∧0<=u∧u<=20000)∧Hid (Rd E (E 3) kn nb ka i r wr)∧Hid (Kept (λc=>c≠lb) V0 wr)∧Hid (mH wr lb u)) (λs8 _=>kn - (intOf s8).toNat)
    case atStart=>exact ⟨0,kk,cur,rfl,Nat.zero_le _,⟨rfl,Nat.le_refl _,Nat.le_refl _,by omega,by omega⟩,K8.out _ hK.out,hK,hN⟩
    case round=>
     obtain ⟨j,r,u,rfl,hjn,kK,iT,hK2,ZR⟩:=hrel;have c5:wr.cell? ⟨W.heap.size,5,none⟩=some (.slice ka kn kc):=(ni.out wr hK2.out).ae 5 _ rfl
     by_cases hj:j < kn
     .obtain ⟨x,rr,b,o,rfl,hx,rfl,hb,hc,hxs,dx⟩:=iT.out.next hj (by decide)
      obtain ⟨g1,g2,g3,g4,g5⟩:=kK.out;rw [OI hx] at g1;rw [Fo.dN] at g2;rw [Fo.aM] at g3;have hjj:(j:Int) < kn:=by omega
      have HC:=hide (ih x nb wr (d+1) u lb (by have:=HM.out;omega) hx hnb (by omega) hxs ZR.out g4 g5 hd1);obtain ⟨X,hX⟩:∃X,(di x).sz (d+1) u=X:=⟨_,rfl⟩
      rw [hX] at HC g1;have HX:=hide hX;have gz:=hide g1;have HR1:=hide dx;have HG2:Hid (rr.wt<=kk.wt∧rr.size<=kk.size):=⟨by omega,by omega⟩
      have qh:=hide g4;have tC:=hide g5;obtain ⟨xk,dJ,bP,dO,bQ,dP,wy,dQ,bR,dR,wz,dU,bS,dV,wB,dW,bT,dX,wC,rfl,-⟩:=ag hx;simp only [Fo.vals] at HC hc;have p0:wr.cell? ⟨b,o+j * 7,none⟩=some (.int .i64 xk):=hc 0 _ rfl;have p1:wr.cell? ⟨b,o+j * 7+1,none⟩=some (.string dJ):=hc 1 _ rfl;have p2:wr.cell? ⟨b,o+j * 7+2,none⟩=some (.bool bP):=hc 2 _ rfl;have p3:wr.cell? ⟨b,o+j * 7+3,none⟩=some (.slice dO bQ dP):=hc 3 _ rfl;have p4:wr.cell? ⟨b,o+j * 7+4,none⟩=some (.slice dQ bR dR):=hc 4 _ rfl;have p5:wr.cell? ⟨b,o+j * 7+5,none⟩=some (.slice dU bS dV):=hc 5 _ rfl;have p6:wr.cell? ⟨b,o+j * 7+6,none⟩=some (.slice dW bT dX):=hc 6 _ rfl;clear hc hxs hx hX g1 g2 g3 g4 g5 kK iT dx;go_wp2_with fail;refine HC.out.mono ?_;clear HC;rintro e w1 ⟨q,rfl,Aq,xc,k1⟩;have xe:=hide (hK2.out.trans k1)
      cases q with
      | false=>
       have HF:Hid (R=none):=by
        have e1:=xc rfl;rw [e1,Option.bind_none] at gz;have e2:=HR2.out;rw [<- gz.out,Option.bind_none] at e2;exact e2.symm
       exact zz182
      | true=>
       obtain ⟨L',e1,n1⟩:=Aq rfl;have e2:=Ar _ _ _ _ (HX.out.trans e1) qh.out;have Au:=gz.out;rw [e1,Option.bind_some] at Au;have Dk:Hid ((di rr).sz (d+1) L'=(di kk).sz (d+1) cur∧rr.wt<=kk.wt∧rr.size<=kk.size∧0<=L'∧L'<=20000):=⟨Au,HG2.out.1,HG2.out.2,e2.1,Int.le_trans e2.2 tC.out⟩
       have OH:=hide n1;have xg:=hide (HR1.out.kept k1 (by have:=xx.out;have:=hK2.out.size;omega) (λc hc=>by have:=xx.out;show c≠lb;omega));clear Aq xc k1 e1 e2 Au n1 HX gz qh tC;go_wp2_with fail;go_roundw
       case rel=>exact ⟨j+1,rr,L',by go_num,by omega,Dk,xg,xe,OH⟩
       case measure=>simp [intOf];omega
     .obtain ⟨rfl,rfl⟩:=iT.out.done hj
      obtain ⟨g1,-,-,g4,g5⟩:=kK.out;rw [dB] at g1;simp only [Tm.sz] at g1;have e2:=HR2.out;rw [<- g1,Option.bind_some] at e2;have HR3:=hide e2;have HU:=hide (And.intro g4 g5);have N7:=hide (Ad.out wr hK2.out);clear g1 g4 g5 kK iT e2 HR2 Ad;go_wp2_with fail
      go_loopw [9] (λs9 wr=>∃(i1:Nat) (r:Fo) (v:Int),s9=.int .i64 i1∧i1<=i∧Hid ((aV r).sz (d+1) v=(aV ak).sz (d+1) u∧r.wt<=ak.wt∧r.size<=ak.size∧0<=v∧v<=20000)∧Hid (Rd E (E 2) i nb aa i1 r wr)∧Hid (Kept (λc=>c≠lb) V0 wr)∧Hid (mH wr lb v)) (λs9 _=>i - (intOf s9).toNat)
      case atStart=>exact ⟨0,ak,u,rfl,Nat.zero_le _,⟨rfl,Nat.le_refl _,Nat.le_refl _,HU.out.1,HU.out.2⟩,N7,hK2,ZR⟩
      case round=>
       obtain ⟨i1,r,v,rfl,YU,kK,iT,hK3,ZT⟩:=hrel;have c6:wr.cell? ⟨W.heap.size,6,none⟩=some (.slice aa i ac):=(ni.out wr hK3.out).ae 6 _ rfl
       by_cases hj1:i1 < i
       .obtain ⟨x,rr,b,o,rfl,hx,rfl,hb,hc,hxs,dx⟩:=iT.out.next hj1 (by decide)
        obtain ⟨g1,g2,g3,g4,g5⟩:=kK.out;obtain ⟨au,ca,cn,cc,ck,y,rfl,-,hy,hap⟩:=OJ hx rr (d+1) v;rw [hap] at g1;rw [Fo.dN] at g2;rw [Fo.aM] at g3;simp only [Fo.wt,Fo.size] at g2 g3;have hjj:(i1:Int) < i:=by omega
        have HC:=hide (ih y nb wr (d+1) v lb (by have:=HM.out;omega) hy hnb (by omega) hxs.2 ZT.out g4 g5 hd1);obtain ⟨X,hX⟩:∃X,(di y).sz (d+1) v=X:=⟨_,rfl⟩
        rw [hX] at HC g1;have HX:=hide hX;have gz:=hide g1;have HR1:=hide dx;have HG2:Hid (rr.wt<=ak.wt∧rr.size<=ak.size):=⟨by omega,by omega⟩
        have qh:=hide g4;have tC:=hide g5;obtain ⟨xk,dJ,bP,dO,bQ,dP,wy,dQ,bR,dR,wz,dU,bS,dV,wB,dW,bT,dX,wC,rfl,-⟩:=ag hy;simp only [Fo.vals] at HC hc;have p0:wr.cell? ⟨b,o+i1 * 9+2,none⟩=some (.int .i64 xk):=hc 2 _ rfl;have p1:wr.cell? ⟨b,o+i1 * 9+2+1,none⟩=some (.string dJ):=hc 3 _ rfl;have p2:wr.cell? ⟨b,o+i1 * 9+2+2,none⟩=some (.bool bP):=hc 4 _ rfl;have p3:wr.cell? ⟨b,o+i1 * 9+2+3,none⟩=some (.slice dO bQ dP):=hc 5 _ rfl;have p4:wr.cell? ⟨b,o+i1 * 9+2+4,none⟩=some (.slice dQ bR dR):=hc 6 _ rfl;have p5:wr.cell? ⟨b,o+i1 * 9+2+5,none⟩=some (.slice dU bS dV):=hc 7 _ rfl;have p6:wr.cell? ⟨b,o+i1 * 9+2+6,none⟩=some (.slice dW bT dX):=hc 8 _ rfl;clear hc hxs hx hX g1 g2 g3 g4 g5 kK iT dx hap hy;go_wp2_with fail;refine HC.out.mono ?_;clear HC;rintro e w1 ⟨q,rfl,Aq,xc,k1⟩;have xe:=hide (hK3.out.trans k1)
        cases q with
        | false=>
         have HF:Hid (R=none):=by
          have e1:=xc rfl;rw [e1,Option.bind_none] at gz;have e2:=HR3.out;rw [<- gz.out,Option.bind_none] at e2;exact e2.symm
         exact zz182
        | true=>
         obtain ⟨L',e1,n1⟩:=Aq rfl;have e2:=Ar _ _ _ _ (HX.out.trans e1) qh.out;have Au:=gz.out;rw [e1,Option.bind_some] at Au;have Dk:Hid ((aV rr).sz (d+1) L'=(aV ak).sz (d+1) u∧rr.wt<=ak.wt∧rr.size<=ak.size∧0<=L'∧L'<=20000):=⟨Au,HG2.out.1,HG2.out.2,e2.1,Int.le_trans e2.2 tC.out⟩
         have OH:=hide n1;have xg:=hide (HR1.out.kept k1 (by have:=xx.out;have:=hK3.out.size;omega) (λc hc=>by have:=xx.out;show c≠lb;omega));clear Aq xc k1 e1 e2 Au n1 HX gz qh tC;go_wp2_with fail;go_roundw
         case rel=>exact ⟨i1+1,rr,L',by go_num,by omega,Dk,xg,xe,OH⟩
         case measure=>simp [intOf];omega
       .obtain ⟨rfl,-⟩:=iT.out.done hj1
        obtain ⟨g1,-,-,g4,g5⟩:=kK.out;rw [gY] at g1;simp only [Tm.sz] at g1;have HF:Hid (R=some v):=by
         have e2:=HR3.out;rw [<- g1,Option.bind_some] at e2;exact e2.symm
        clear g1 g4 g5 kK iT;have hji:¬(i1:Int) < i:=by omega
        go_wp2_with fail;go_ret;exact ⟨true,rfl,λ_=>⟨v,HF.out,ZT.out⟩,λh=>absurd h (by decide),IK.out wr hK3.out⟩
theorem Fg:∀m,OG m
 | 0=>λF _ _ _ _ _ hm hf=>absurd (Fit.len hf) (by have:=F.fJ;show ¬F.len=7;omega)
 | m+1=>Lh m (Fg m)
end Go.Proofs.YthfnobboalhihaaGreat.C
