import Derived.Test.YthfnobboalhihaaGreatRg
namespace Go.Proofs.YthfnobboalhihaaGreat
open Go.RowKit Go.Joins
theorem zz127 {P:Prop} (h:P:=by
 refine (m1.aside k2 (λc hc hy=>m3 c hc (by rw [g3];exact y4 c hy)) (.inl (by rw [Fo.aB,g2];omega))).join (by rw [g2,hl];exact z1) (λc hc=>by rw [g5,<- g3];exact m3 c hc)):P:=h
theorem zz168 {P:Prop} (h:P:=by
 refine k1.join ?_ (λc hc=>m3 c (by rw [<- g1];exact hc));rw [g2];exact m2.aside k2 (λc hc hx=>m3 c hx hc) (.inr (by omega))):P:=h
theorem ik (f t:ByteArray) (a b:Bool) {x:Fo} (hx:Fit E x (E 3)):(dH f t a b x).ah=x.ah∧(dH f t a b x).len=x.len:=
 ((jW f t _ x 1 (Nat.le_refl _)).1 (show Fit E x (rep (E 3) 1) from hx)).2 a b
theorem iK (f t:ByteArray):∀(n i:Nat) (a b:Bool) (F:Fo),Fit E F (rep (E 3) n)->(jo f t a b i F).ah=F.ah∧(jo f t a b i F).len=F.len
 | n,0,a,b,F,_=>by rw [jo];exact ⟨rfl,rfl⟩
 | 0,i+1,a,b,F,h=>by rw [ai h,jo] <;> simp
 | n+1,i+1,a,b,F,h=>by
  obtain ⟨x,q,rfl,hx,hq,-⟩:=Fit.split (fs:=E 3) (gs:=rep (E 3) n) h;obtain ⟨g1,g2⟩:=ik f t a a hx;obtain ⟨g3,g4⟩:=iK f t n i b b q hq;rw [pG f t a b i hx q,Fo.aQ,Fo.aR,g1,g2,g3,g4,Fo.aQ,Fo.aR];exact ⟨rfl,rfl⟩
theorem row_step (f t:ByteArray) {Q:Fo->Prop} {B:Nat}:∀(n i o:Nat) (F:Fo) (V:World),Fit E F (rep (E 3) n)->(∀b o,∀e∈aS b o F,Q e.x)->i < n->Mine V (jo f t true true i F) B o->
  ∃x,Fit E x (E 3)∧Q x∧Mine V x B (o+i * 7)∧(∀c∈x.ah,c∈F.ah)∧∀V',Mine V' (dH f t true true x) B (o+i * 7)->aZ x.ah B (o+i * 7) 7 V V'->Mine V' (jo f t true true (i+1) F) B o∧aZ F.ah B o (n * 7) V V'
 | 0,i,o,F,V,_,_,hi,_=>by omega
 | n+1,i,o,F,V,h,hQ,hi,hm=>by
  obtain ⟨x,q,rfl,hx,hq,-⟩:=Fit.split (fs:=E 3) (gs:=rep (E 3) n) h;have hl:x.len=7:=by have:=Fit.len hx;simpa [show (E 3).length=7 from rfl] using this
  have hi1:(x.app q).ah=x.ah++q.ah:=Fo.aQ x q;have LZ:Q x:=by
   have:=hQ 0 0
   obtain ⟨k,nm,mn,la,ln,lc,lk,na,nn,nc,nk,ka,kn,kc,kk,aa,an,ac,ak,rfl,-⟩:=ag hx;simp only [Fo.app,aS] at this;exact this _ List.mem_cons_self
  have VY:∀b o,∀e∈aS b o q,Q e.x:=λb o e he=>by
   have h7:e.x∈(aS 0 7 q).map Nd.x:=by
    rw [<- IQ b 0 n o 7 q hq];exact List.mem_map.2 ⟨e,he,rfl⟩
   obtain ⟨e2,he2,e3⟩:=List.mem_map.1 h7
   have:=hQ 0 0
   obtain ⟨k,nm,mn,la,ln,lc,lk,na,nn,nc,nk,ka,kn,kc,kk,aa,an,ac,ak,rfl,-⟩:=ag hx;simp only [Fo.app,aS] at this;rw [<- e3];exact this _ (List.mem_cons_of_mem _ he2)
  obtain ⟨g1,g2⟩:=ik f t true true hx
  cases i with
  | zero=>
   rw [jo] at hm;obtain ⟨m1,m2,m3⟩:=hm.split;refine ⟨x,hx,LZ,by rw [Nat.zero_mul,Nat.add_zero];exact m1,λc hc=>by rw [hi1];exact List.mem_append.2 (.inl hc),λV' k1 k2=>?_⟩;rw [Nat.zero_mul,Nat.add_zero] at k1 k2;refine ⟨?_,k2.wide (λc hc=>by rw [hi1];exact List.mem_append.2 (.inl hc)) (Nat.le_refl _) (by omega)⟩;rw [pG f t true true 0 hx q,jo];exact zz168
  | succ i=>
   rw [pG f t true true i hx q] at hm;obtain ⟨m1,m2,m3⟩:=hm.split;rw [g2,hl] at m2;obtain ⟨y,y1,y2,y3,y4,y5⟩:=row_step f t n i (o+7) q V hq VY (by omega) m2;have eo:o+7+i * 7=o+(i+1)* 7:=by omega
   rw [eo] at y3 y5;refine ⟨y,y1,y2,y3,λc hc=>by rw [hi1];exact List.mem_append.2 (.inr (y4 c hc)),λV' k1 k2=>?_⟩;obtain ⟨z1,z2⟩:=y5 V' k1 k2;obtain ⟨g3,g4⟩:=iK f t n i true true q hq;obtain ⟨g5,g6⟩:=iK f t n (i+1) true true q hq;refine ⟨?_,z2.wide (λc hc=>by rw [hi1];exact List.mem_append.2 (.inr hc)) (by omega) (by omega)⟩;rw [pG f t true true (i+1) hx q];exact zz127
theorem L8 (f t:ByteArray) {x:Fo} (hx:Fit E x (E 2)):∃(au:ByteArray) (ca:Option Addr) (cn cc:Nat) (ck y:Fo),x=(Fo.v (.string au) (.s ca cn cc ck .nil)).app y∧Fit E y (E 3)∧Fit E ck (rep (E 1) cn)∧(∀b o,aJ b o x=[⟨b,o+2,y⟩])∧(fV f (fe ck)=true->jZ f t true x=x)∧(fV f (fe ck)=false->jZ f t true x=(Fo.v (.string au) (.s ca cn cc ck .nil)).app (dH f t true true y)):=by
 obtain ⟨au,ca,cn,cc,ck,y,rfl,-,hck,hy⟩:=aK hx;refine ⟨au,ca,cn,cc,ck,y,rfl,hy,hck,λb o=>?_,λh=>?_,λh=>?_⟩
 .obtain ⟨k,nm,mn,la,ln,lc,lk,na,nn,nc,nk,ka,kn,kc,kk,aa,an,ac,ak,rfl,-⟩:=ag hy
  simp only [aJ]
 .obtain ⟨k,nm,mn,la,ln,lc,lk,na,nn,nc,nk,ka,kn,kc,kk,aa,an,ac,ak,rfl,-,-,-,-,h5,h6⟩:=ag hy
  rw [lU,gI];simp [h,((jW f t _ kk kn (Nat.le_refl _)).1 h5).1,((jW f t _ ak an (Nat.le_refl _)).2 h6).1]
 .obtain ⟨k,nm,mn,la,ln,lc,lk,na,nn,nc,nk,ka,kn,kc,kk,aa,an,ac,ak,rfl,-⟩:=ag hy
  rw [lU,gI,iN,dY];simp [h,Fo.app]
theorem Kk {f t:ByteArray} {V V':World} {b o:Nat} {au:Value} {ca:Option Addr} {cn cc:Nat} {ck y:Fo} (hy:Fit E y (E 3)) (h:Mine V ((Fo.v au (.s ca cn cc ck .nil)).app y) b o):
  Mine V y b (o+2)∧(Mine V' (dH f t true true y) b (o+2)->aZ y.ah b (o+2) 7 V V'->Mine V' ((Fo.v au (.s ca cn cc ck .nil)).app (dH f t true true y)) b o∧aZ ((Fo.v au (.s ca cn cc ck .nil)).app y).ah b o 9 V V'):=by
 obtain ⟨m1,m2,m3⟩:=h.split;have hl:(Fo.v au (.s ca cn cc ck .nil)).len=2:=rfl;rw [hl] at m2;obtain ⟨g1,g2⟩:=ik f t true true hy;refine ⟨m2,λk1 k2=>⟨(m1.aside k2 m3 (.inl (by rw [Fo.aB,hl];omega))).join (by rw [hl];exact k1) (λc hc=>by rw [g1];exact m3 c hc),k2.wide (λc hc=>by rw [Fo.aQ];exact List.mem_append.2 (.inr hc)) (by omega) (by omega)⟩⟩
def lX (f t:ByteArray):Nat->Fo->Fo
 | 0,F=>F
 | i+1,.v au (.s ca cn cc ck (.v k (.v nm (.v mn (.s la ln lc lk (.s na nn nc nk (.s ka kn kc kk (.s aa an ac ak r))))))))=>
  (jZ f t true (.v au (.s ca cn cc ck (.v k (.v nm (.v mn (.s la ln lc lk (.s na nn nc nk (.s ka kn kc kk (.s aa an ac ak .nil)))))))))).app (lX f t i r)
 | _,F=>F
theorem sJ (f t:ByteArray) (i:Nat) {x:Fo} (hx:Fit E x (E 2)) (q:Fo):lX f t (i+1) (x.app q)=(jZ f t true x).app (lX f t i q):=by
 obtain ⟨au,ca,cn,cc,ck,y,rfl,-,-,hy⟩:=aK hx;obtain ⟨k,nm,mn,la,ln,lc,lk,na,nn,nc,nk,ka,kn,kc,kk,aa,an,ac,ak,rfl,-⟩:=ag hy;simp only [Fo.app];rw [lX]
theorem FT (f t:ByteArray):∀(n:Nat) (F:Fo),Fit E F (rep (E 2) n)->lX f t n F=jZ f t true F
 | 0,F,h=>by rw [ai h,gI,lX]
 | n+1,F,h=>by
  obtain ⟨x,q,rfl,hx,hq,-⟩:=Fit.split (fs:=E 2) (gs:=rep (E 2) n) h;rw [sJ f t n hx q,Pt f t true hx q,FT f t n q hq]
theorem Bc (f t:ByteArray) {x:Fo} (hx:Fit E x (E 2)):(jZ f t true x).ah=x.ah∧(jZ f t true x).len=x.len:=
 ((jW f t _ x 1 (Nat.le_refl _)).2 (show Fit E x (rep (E 2) 1) from hx)).2 true
theorem lg (f t:ByteArray):∀(n i:Nat) (F:Fo),Fit E F (rep (E 2) n)->(lX f t i F).ah=F.ah∧(lX f t i F).len=F.len
 | n,0,F,_=>by rw [lX];exact ⟨rfl,rfl⟩
 | 0,i+1,F,h=>by rw [ai h,lX] <;> simp
 | n+1,i+1,F,h=>by
  obtain ⟨x,q,rfl,hx,hq,-⟩:=Fit.split (fs:=E 2) (gs:=rep (E 2) n) h;obtain ⟨g1,g2⟩:=Bc f t hx;obtain ⟨g3,g4⟩:=lg f t n i q hq;rw [sJ f t i hx q,Fo.aQ,Fo.aR,g1,g2,g3,g4,Fo.aQ,Fo.aR];exact ⟨rfl,rfl⟩
theorem BN (f t:ByteArray) {Q:Fo->Prop} {B:Nat}:∀(n i o:Nat) (F:Fo) (V:World),Fit E F (rep (E 2) n)->(∀b o,∀e∈aJ b o F,Q e.x)->i < n->Mine V (lX f t i F) B o->
  ∃x,Fit E x (E 2)∧(∀b o,∀e∈aJ b o x,Q e.x)∧x.wt<=F.wt∧Mine V x B (o+i * 9)∧(∀c∈x.ah,c∈F.ah)∧∀V',Mine V' (jZ f t true x) B (o+i * 9)->aZ x.ah B (o+i * 9) 9 V V'->Mine V' (lX f t (i+1) F) B o∧aZ F.ah B o (n * 9) V V'
 | 0,i,o,F,V,_,_,hi,_=>by omega
 | n+1,i,o,F,V,h,hQ,hi,hm=>by
  obtain ⟨x,q,rfl,hx,hq,-⟩:=Fit.split (fs:=E 2) (gs:=rep (E 2) n) h;have hl:x.len=9:=by have:=Fit.len hx;simpa [show (E 2).length=9 from rfl] using this
  have hi1:(x.app q).ah=x.ah++q.ah:=Fo.aQ x q;have hit:∀b o,aJ b o (x.app q)=aJ b o x++aJ b (o+9) q:=λb o=>by
   obtain ⟨au,ca,cn,cc,ck,y,rfl,-,-,hy⟩:=aK hx;obtain ⟨k,nm,mn,la,ln,lc,lk,na,nn,nc,nk,ka,kn,kc,kk,aa,an,ac,ak,rfl,-⟩:=ag hy;simp [Fo.app,aJ]
  have LZ:∀b o,∀e∈aJ b o x,Q e.x:=λb o e he=>hQ b o e (by rw [hit];exact List.mem_append.2 (.inl he))
  have VY:∀b o,∀e∈aJ b o q,Q e.x:=λb o e he=>by
   have h7:e.x∈(aJ 0 9 q).map Nd.x:=by
    rw [<- DR b 0 n o 9 q hq];exact List.mem_map.2 ⟨e,he,rfl⟩
   obtain ⟨e2,he2,e3⟩:=List.mem_map.1 h7;rw [<- e3];exact hQ 0 0 e2 (by rw [hit];exact List.mem_append.2 (.inr he2))
  obtain ⟨g1,g2⟩:=Bc f t hx
  cases i with
  | zero=>
   rw [lX] at hm;obtain ⟨m1,m2,m3⟩:=hm.split;refine ⟨x,hx,LZ,by rw [Fo.dN];omega,by rw [Nat.zero_mul,Nat.add_zero];exact m1,λc hc=>by rw [hi1];exact List.mem_append.2 (.inl hc),λV' k1 k2=>?_⟩;rw [Nat.zero_mul,Nat.add_zero] at k1 k2;refine ⟨?_,k2.wide (λc hc=>by rw [hi1];exact List.mem_append.2 (.inl hc)) (Nat.le_refl _) (by omega)⟩;rw [sJ f t 0 hx q,lX];exact zz168
  | succ i=>
   rw [sJ f t i hx q] at hm;obtain ⟨m1,m2,m3⟩:=hm.split;rw [g2,hl] at m2;obtain ⟨y,y1,y2,yw,y3,y4,y5⟩:=BN f t n i (o+9) q V hq VY (by omega) m2;have eo:o+9+i * 9=o+(i+1)* 9:=by omega
   rw [eo] at y3 y5;refine ⟨y,y1,y2,by rw [Fo.dN];omega,y3,λc hc=>by rw [hi1];exact List.mem_append.2 (.inr (y4 c hc)),λV' k1 k2=>?_⟩;obtain ⟨z1,z2⟩:=y5 V' k1 k2;obtain ⟨g3,g4⟩:=lg f t n i q hq;obtain ⟨g5,g6⟩:=lg f t n (i+1) q hq;refine ⟨?_,z2.wide (λc hc=>by rw [hi1];exact List.mem_append.2 (.inr hc)) (by omega) (by omega)⟩;rw [sJ f t (i+1) hx q];exact zz127
theorem Mine.deep {V:World} {X r ks:Fo} {a:Option Addr} {n cap b o:Nat} (w:Nat) (h:Mine V (X.app (.s a n cap ks r)) b o) (hl:0 < ks.len):
  ∃c p,a=some ⟨c,p,none⟩∧V.cell? ⟨b,o+X.len,none⟩=some (.slice (some ⟨c,p,none⟩) n cap)∧Mine V ks c p∧∀(V':World) (ks':Fo) (m:Nat),ks'.ah=ks.ah->ks'.len=ks.len->Mine V' ks' c p->aZ ks.ah c p m V V'->Mine V' (X.app (.s a n cap ks' r)) b o∧aZ (X.app (.s a n cap ks r)).ah b o w V V':=by
 have hall:=h;obtain ⟨m1,m2,m3⟩:=h.split;have hcap:=m2.subs.1;obtain ⟨c,p,rfl,h0,mk,mr,⟨d1,d2⟩,e1,e2⟩:=m2.row hl;have hi:(Fo.s (some ⟨c,p,none⟩) n cap ks r).ah=c ::(ks.ah++r.ah):=by simp [Fo.ah,aT hl]
 have hj:(X.app (Fo.s (some ⟨c,p,none⟩) n cap ks r)).ah=X.ah++(c ::(ks.ah++r.ah)):=by rw [Fo.aQ,hi]
 refine ⟨c,p,rfl,h0,mk,λV' ks' m i1 i2 k1 k2=>?_⟩;have hb:b≠c∧b∉ks.ah:=⟨λe=>e1 e.symm,e2⟩
 have hX:∀d,d=b∨d∈X.ah->d≠c∧d∉ks.ah:=λd hd=>by
  rcases hd with e | e
  .rw [e];exact hb
  .have:=m3 d e
   rw [hi] at this;exact ⟨λe'=>this (by rw [e'];exact List.mem_cons_self),λhx=>this (List.mem_cons_of_mem _ (List.mem_append.2 (.inl hx)))⟩
 have hr:∀d,d=b∨d∈r.ah->d≠c∧d∉ks.ah:=λd hd=>by
  rcases hd with e | e
  .rw [e];exact hb
  .exact ⟨λe'=>d1 (by rw [<- e'];exact e),λhx=>d2 d hx e⟩
 have hi':(Fo.s (some ⟨c,p,none⟩) n cap ks' r).ah=c ::(ks.ah++r.ah):=by simp [Fo.ah,i1,i2,aT hl]
 have sh:Mine V' (.s (some ⟨c,p,none⟩) n cap ks' r) b (o+X.len):=Mine.shut (by rw [i2];exact hl) ⟨hcap.1,hcap.2.1⟩ ((k2.kp.cell (p:=⟨b,o+X.len,none⟩) hall.lt.1 hb).trans h0) k1 (mr.keep k2.kp hr) ⟨d1,by rw [i1];exact d2⟩ ⟨e1,by rw [i1];exact e2⟩;refine ⟨(m1.keep k2.kp hX).join sh (λd hd=>by rw [hi',<- hi];exact m3 d hd),k2.below (by rw [hj];simp) (λd hd=>by rw [hj];simp [hd]) (List.nodup_cons.1 hall.nd).1 hall.lt.1⟩
end Go.Proofs.YthfnobboalhihaaGreat
