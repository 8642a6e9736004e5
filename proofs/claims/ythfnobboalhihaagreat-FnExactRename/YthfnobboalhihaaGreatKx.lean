import Derived.Test.YthfnobboalhihaaGreatUt
import Derived.Deep.RegionHeld3
set_option maxHeartbeats 1000000
set_option maxRecDepth 100000
namespace Go.Proofs.YthfnobboalhihaaGreat
open Go.RowKit Go.Joins
mutual
def fH:Fo->Nat
 | .v _ (.v _ (.v _ (.s _ _ _ _ (.s _ _ _ _ (.s _ _ _ kk (.s _ _ _ ak r))))))=>1+fH kk+mh ak+fH r
 | _=>0
def mh:Fo->Nat
 | .v _ (.s _ _ _ _ (.v _ (.v _ (.v _ (.s _ _ _ _ (.s _ _ _ _ (.s _ _ _ kk (.s _ _ _ ak r))))))))=>1+fH kk+mh ak+mh r
 | _=>0
end
theorem kI:fH .nil=0:=by rw [fH];intros;contradiction
theorem rT:mh .nil=0:=by rw [mh];intros;contradiction
theorem qp (k nm mn:Value) (la na ka aa:Option Addr) (ln lc nn nc kn kc an ac:Nat) (lk nk kk ak r:Fo):
  fH (.v k (.v nm (.v mn (.s la ln lc lk (.s na nn nc nk (.s ka kn kc kk (.s aa an ac ak r)))))))=1+fH kk+mh ak+fH r:=by rw [fH]
theorem Jy (au:Value) (ca:Option Addr) (cn cc:Nat) (ck:Fo) (k nm mn:Value) (la na ka aa:Option Addr) (ln lc nn nc kn kc an ac:Nat) (lk nk kk ak r:Fo):
  mh (.v au (.s ca cn cc ck (.v k (.v nm (.v mn (.s la ln lc lk (.s na nn nc nk (.s ka kn kc kk (.s aa an ac ak r)))))))))=1+fH kk+mh ak+mh r:=by rw [mh]
theorem ag {x:Fo} (hx:Fit E x (E 3)):∃(k:Int) (nm:ByteArray) (mn:Bool) (la:Option Addr) (ln lc:Nat) (lk:Fo) (na:Option Addr) (nn nc:Nat) (nk:Fo) (ka:Option Addr) (kn kc:Nat) (kk:Fo) (aa:Option Addr) (an ac:Nat) (ak:Fo),
  x=.v (.int .i64 k) (.v (.string nm) (.v (.bool mn) (.s la ln lc lk (.s na nn nc nk (.s ka kn kc kk (.s aa an ac ak .nil))))))∧(Lit.int .i64 k).wf=true∧nm.size<=maxLen∧Fit E lk (rep (E 0) ln)∧Fit E nk (rep (E 1) nn)∧Fit E kk (rep (E 3) kn)∧Fit E ak (rep (E 2) an):=by
 exact zz48
theorem aK {x:Fo} (hx:Fit E x (E 2)):∃(au:ByteArray) (ca:Option Addr) (cn cc:Nat) (ck y:Fo),x=.v (.string au) (.s ca cn cc ck y)∧au.size<=maxLen∧Fit E ck (rep (E 1) cn)∧Fit E y (E 3):=by
 exact zz137
structure Nd where
 b:Nat
 o:Nat
 x:Fo
def Nd.ptr (d:Nd):Value:=.pointer (some ⟨d.b,d.o,none⟩)
def aS (b:Nat):Nat->Fo->List Nd
 | o,.v k (.v nm (.v mn (.s la ln lc lk (.s na nn nc nk (.s ka kn kc kk (.s aa an ac ak r))))))=>⟨b,o,.v k (.v nm (.v mn (.s la ln lc lk (.s na nn nc nk (.s ka kn kc kk (.s aa an ac ak .nil))))))⟩::aS b (o+7) r
 | _,_=>[]
def aJ (b:Nat):Nat->Fo->List Nd
 | o,.v _ (.s _ _ _ _ (.v k (.v nm (.v mn (.s la ln lc lk (.s na nn nc nk (.s ka kn kc kk (.s aa an ac ak r))))))))=>⟨b,o+2,.v k (.v nm (.v mn (.s la ln lc lk (.s na nn nc nk (.s ka kn kc kk (.s aa an ac ak .nil))))))⟩::aJ b (o+9) r
 | _,_=>[]
def eP (a:Option Addr) (F:Fo):List Nd:=match a with
 | some p=>aS p.block p.off F
 | none=>[]
def fC (a:Option Addr) (F:Fo):List Nd:=match a with
 | some p=>aJ p.block p.off F
 | none=>[]
def Nd.kids (d:Nd):List Nd:=match d.x with
 | .v _ (.v _ (.v _ (.s _ _ _ _ (.s _ _ _ _ (.s ka _ _ kk (.s aa _ _ ak _))))))=>eP ka kk++fC aa ak
 | _=>[]
structure Nd.Ok (W:World) (S:Nat->Prop) (d:Nd):Prop where
 fit:Fit E d.x (E 3)
 ae:bD W d.x.vals d.b d.o
 subs:d.x.av W S
 at_:S d.b
theorem uZ {W:World} {S:Nat->Prop} {b:Nat} (hb:S b):∀(n:Nat) (o:Nat) (F:Fo),Fit E F (rep (E 3) n)->bD W F.vals b o->F.av W S->(aS b o F).length=n∧(∀i d,(aS b o F)[i]? =some d->d.b=b∧d.o=o+i * 7)∧∀d∈aS b o F,d.Ok W S
 | 0,o,F,h,_,_=>by
  exact zz226
 | n+1,o,F,h,hc,hs=>by
  exact zz29
theorem ve {W:World} {S:Nat->Prop} {b:Nat} (hb:S b):∀(n:Nat) (o:Nat) (F:Fo),Fit E F (rep (E 2) n)->bD W F.vals b o->F.av W S->(aJ b o F).length=n∧(∀i d,(aJ b o F)[i]? =some d->d.b=b∧d.o=o+i * 9+2)∧∀d∈aJ b o F,d.Ok W S
 | 0,o,F,h,_,_=>by
  exact zz227
 | n+1,o,F,h,hc,hs=>by
  exact zz22
def Nd.pos (d:Nd):Nat×Nat:=(d.b,d.o)
def kA:Fo->Option Addr
 | .v _ (.v _ (.v _ (.s _ _ _ _ (.s _ _ _ _ (.s a _ _ _ _)))))=>a
 | _=>none
def kN:Fo->Nat
 | .v _ (.v _ (.v _ (.s _ _ _ _ (.s _ _ _ _ (.s _ n _ _ _)))))=>n
 | _=>0
def kF:Fo->Fo
 | .v _ (.v _ (.v _ (.s _ _ _ _ (.s _ _ _ _ (.s _ _ _ k _)))))=>k
 | _=>.nil
def aA:Fo->Option Addr
 | .v _ (.v _ (.v _ (.s _ _ _ _ (.s _ _ _ _ (.s _ _ _ _ (.s a _ _ _ _))))))=>a
 | _=>none
def aN:Fo->Nat
 | .v _ (.v _ (.v _ (.s _ _ _ _ (.s _ _ _ _ (.s _ _ _ _ (.s _ n _ _ _))))))=>n
 | _=>0
def aF:Fo->Fo
 | .v _ (.v _ (.v _ (.s _ _ _ _ (.s _ _ _ _ (.s _ _ _ _ (.s _ _ _ k _))))))=>k
 | _=>.nil
def gJ (O:Nat->Nat):Fo->Prop
 | .nil=>True
 | .v _ r=>gJ O r
 | .s a _ _ ks r=>(0 < ks.len->∀b o,a=some ⟨b,o,none⟩->O b=o)∧gJ O ks∧gJ O r
theorem gJ.Ff {O P:Nat->Nat}:∀{F:Fo} {W:World} {S:Nat->Prop},F.av W S->gJ O F->(∀c∈F.ah,P c=O c)->gJ P F
 | .nil,_,_,_,_,_=>trivial
 | .v _ r,W,S,hs,h,e=>gJ.Ff (F:=r) (W:=W) (S:=S) hs h e
 | .s a n c ks r,W,S,hs,h,e=>by
  refine ⟨λhl b o ha=>?_,?_,?_⟩
  .rw [<- h.1 hl b o ha]
   exact e b (by subst ha;simp [Fo.ah,aT hl])
  .by_cases hl:0 < ks.len
   .obtain ⟨b,o,-,-,-,hk⟩:=hs.1.2.2 hl
    exact gJ.Ff hk h.2.1 (λc hc=>e c (by simp only [Fo.ah,List.mem_append];exact .inl (.inr hc)))
   .rw [Fo.iD hl]
    trivial
  .exact gJ.Ff hs.2 h.2.2 (λc hc=>e c (by simp only [Fo.ah,List.mem_append];exact .inr hc))
open Classical in
theorem vO:∀{F:Fo} {W:World} {S:Nat->Prop},F.av W S->F.ah.Nodup->∃O,gJ O F
 | .nil,_,_,_,_=>⟨λ_=>0,trivial⟩
 | .v _ r,W,S,hs,hn=>vO (F:=r) (W:=W) (S:=S) hs hn
 | .s a n c ks r,W,S,hs,hn=>by
  simp only [Fo.ah] at hn;obtain ⟨h1,h2,h3⟩:=List.nodup_append.1 hn;obtain ⟨h4,h5,h6⟩:=List.nodup_append.1 h1;obtain ⟨O2,ho2⟩:=vO hs.2 h2
  by_cases hl:0 < ks.len
  .obtain ⟨b,o,rfl,-,-,hk⟩:=hs.1.2.2 hl
   obtain ⟨O1,ho1⟩:=vO hk h5;rw [aT hl] at h1 h3 h6;have hb1:b∉ks.ah:=λhc=>h6 b (by simp) b hc rfl
   have hb2:b∉r.ah:=λhc=>h3 b (by simp) b hc rfl
   refine ⟨λc=>if c=b then o else if c∈ks.ah then O1 c else O2 c,λ_ b' o' e=>?_,?_,?_⟩
   .cases e
    exact if_pos rfl
   .exact gJ.Ff hk ho1 (λc hc=>by rw [if_neg (λe=>hb1 (by rw [<- e];exact hc)),if_pos hc])
   .refine gJ.Ff hs.2 ho2 (λc hc=>?_)
    rw [if_neg (λe=>hb2 (by rw [<- e];exact hc)),if_neg (λhx=>h3 c (List.mem_append.2 (.inr hx)) c hc rfl)]
  .refine ⟨O2,λhl2=>absurd hl2 hl,?_,ho2⟩
   rw [Fo.iD hl];trivial
theorem zz24 {P:Prop} (h:P:=by
 go_wp2_with fail
 go_loopw [1,5] (λs1 s5 wr=>s1=.int .i64 k∧s5=.int .i64 0∧wr=W) (λ_ _ _=>0)
 case atStart=>exact ⟨rfl,rfl,rfl⟩
 case round=>
  obtain ⟨rfl,rfl,rfl⟩:=hrel;go_wp2_with fail;go_ret;exact ⟨by simp [Fo.ct],⟨⟨hs.1.1,hs.1.2.1,λh=>by simp [Fo.mk,Fo.len] at h⟩,trivial⟩,Kept.refl _ _,hlv⟩):P:=h
theorem zz36 {P:Prop} (h:P:=by
 subst e1;have hin2:i=n:=by omega
 subst hin2;have h1:=hide (hI.out.finish vW.out.1 vW.out.2 HL.out);clear hR hI;go_wp2_with fail;go_ret;obtain ⟨h2,h3,h4,h5⟩:=h1.out;subst h2;exact ⟨by rw [hq.out];rfl,h3,h4,h5⟩):P:=h
theorem zz47 {P:Prop} (h:P:=by
 first | rfl | (congr 2;done) | (congr 2;omega) | (congr 3;omega) | (congr 4;omega)):P:=h
theorem zz53 {P:Prop} (h:P:=by
 have h1:=hq.out.2;simp only [Fo.ct] at h1;have H1:=hide h1;clear hR hq hrs h1;go_wp2_with fail;go_ret;exact ⟨gH (by have:=H1.out;omega),hB.out⟩):P:=h
theorem zz133 {P:Prop} (h:P:=by
 rw [Int.tmod_eq_emod_of_nonneg (by omega),<- hg4]
 by_cases hh:(q1+2) % 3=0
 .rw [decide_eq_true hh,beq_iff_eq];omega
 .rw [decide_eq_false hh,beq_eq_false_iff_ne];omega):P:=h
theorem zz135 {P:Prop} (h:P:=by
 rw [Int.tmod_eq_emod_of_nonneg (by omega),<- hg2]
 by_cases hh:(q+2) % 3=0
 .rw [decide_eq_true hh,beq_iff_eq];omega
 .rw [decide_eq_false hh,beq_eq_false_iff_ne];omega):P:=h
theorem jX (k:Nat) (w:World) (h0:0 < k) (hk:k<=4294967296):Calls Tryz.prog 59 #[.int .i64 k] w λe w'=>e=.returned (.string (mt k))∧Below w.heap.size w w':=by
 go_enter Tryz.func59,Tryz.ntmps59;go_wp2_with fail
 go_loopw [0,3] (λi o wr=>∃(j:Nat) (s:ByteArray),j<=k∧i=.int .i64 j∧o=.string s∧s.size+j<=k∧Hid (dg j s=dg k ⟨#[]⟩)∧Below w.heap.size w wr) (λi _ _=>(intOf i).toNat)
 case atStart=>exact ⟨k,⟨#[]⟩,Nat.le_refl _,rfl,rfl,by simp [ByteArray.size],rfl,Below.refl _ _⟩
 case round=>
  obtain ⟨j,s,hj,rfl,rfl,hsz,hd,hb⟩:=hrel
  by_cases hlt:0 < j
  .have hlt':(0:Int) < j:=by omega
   obtain ⟨r,hr⟩:∃r,r=j % 10:=⟨_,rfl⟩
   obtain ⟨q,hq⟩:∃q,q=j / 10:=⟨_,rfl⟩
   have hr':(j:Int).tmod 10=r:=by rw [hr,Int.tmod_eq_emod_of_nonneg (by omega)];omega
   have hq':(j:Int).tdiv 10=q:=by rw [hq,Int.tdiv_eq_ediv_of_nonneg (by omega)];omega
   have hrl:r < 10:=by omega
   have hql:q < j:=by omega
   have HDG:Hid (dg q (⟨#[UInt8.ofNat (48+r)]⟩++s)=dg k ⟨#[]⟩):=by
    unfold Hid;rw [<- hd.out,dg.eq_def j s,dif_neg (by omega),hr,hq]
   have hss:((⟨#[UInt8.ofNat (48+r)]⟩:ByteArray)++s).size=s.size+1:=by
    rw [ByteArray.size_append];show 1+s.size=_;omega
   clear hr hq;have hcv:(convert 174 9 (.slice (some ⟨wr.heap.size,0,none⟩) 1 1)).run Tryz.prog (wr.alloc (.cells #[.int .u8 (48+(r:Int))] 5))=.ok (.string ⟨#[UInt8.ofNat (48+r)]⟩) (wr.alloc (.cells #[.int .u8 (48+(r:Int))] 5)):=
    run_convert_bytes_back (P:=Tryz.prog) (wr.alloc (.cells #[.int .u8 (48+(r:Int))] 5)) 174 9 5 ⟨wr.heap.size,0,none⟩ 1 [UInt8.ofNat (48+r)] Tryz.underlying174 Tryz.underlying5 Tryz.underlying9 (λj hj=>by
     have:j=0:=by simpa using hj
     subst this;have hm:(48+r) % 256=48+r:=Nat.mod_eq_of_lt (by omega);show (wr.alloc _).cell? _=_;simp [Addr.add,hm])
   generalize hG:UInt8.ofNat (48+r)=G at *;go_wp2_with fail;go_roundw
   case rel=>exact ⟨q,⟨#[G]⟩++s,by omega,rfl,rfl,by rw [hss];omega,HDG,hb.trans ((below_alloc1 _ _).mono hb.size)⟩
   case measure=>simp [intOf];omega
  .have hlt':¬(0:Int) < j:=by omega
   obtain rfl:j=0:=by omega
   have hd':=hd.out;rw [dg,dif_pos rfl] at hd';subst hd';go_wp2_with fail;go_ret;exact ⟨rfl,hb⟩
end Go.Proofs.YthfnobboalhihaaGreat
