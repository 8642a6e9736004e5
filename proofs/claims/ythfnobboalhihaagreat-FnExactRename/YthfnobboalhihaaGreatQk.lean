import Derived.Test.YthfnobboalhihaaGreatQg
set_option maxHeartbeats 4000000
set_option maxRecDepth 100000
namespace Go.Proofs.YthfnobboalhihaaGreat
open Go.RowKit Go.Joins
theorem JR:∀(n:Nat) (F:Fo),Fit E F (rep (E 2) n)->kE F<=n+F.wt
 | 0,F,h=>by rw [ai h];simp [kE]
 | n+1,F,h=>by
  obtain ⟨x,q,rfl,hx,hq,hl⟩:=Fit.split (fs:=E 2) (gs:=rep (E 2) n) h;obtain ⟨au,ca,cn,cc,ck,y,rfl,-,hck,hy⟩:=aK hx
  have:=JR n q hq
  obtain ⟨k,nm,mn,la,ln,lc,lk,na,nn,nc,nk,ka,kn,kc,kk,aa,an,ac,ak,rfl,-⟩:=ag hy;simp only [Fo.app,kE,Fo.wt];omega
theorem Ls {q:Cq} {B0 V:World} {n:Nat} {Q:List Nd} {sv:Value} (z:Sz q B0) (h:CS q B0 V n Q sv) (p:Value) {tb:Nat} (htb:V.cell? ⟨tb,0,none⟩=some (.pointer (some ⟨q.CB,0,none⟩))) (htn:B0.heap.size<=tb∧sv.ownBlock≠some tb) (a:Option Addr) (m c i:Nat) (ak:Fo) (hf:Fit E ak (rep (E 2) m)) (hv:Hv V a m ak.vals) (hsb:ak.av B0 (q.bs B0)) (hm:m+ak.wt<=1048576) (hi:i < q.nl) (hn:n+kE ak < 10000000) (hQ:Q.length+m < 10000000):
  Calls Tryz.prog 92 #[.pointer (some ⟨q.CB,0,none⟩),p,.slice a m c,.int .i64 i,.bool true,.func (.func 94) #[] #[.pointer (some ⟨tb,0,none⟩)]] V λe V'=>∃a' cap bG sv',e=.returned (.slice a' m cap)∧bG.aG ak∧(aJ 0 0 bG).map Nd.x=(aJ 0 0 ak).map Nd.x∧(∀d∈fC a' bG,bD V' d.x.vals d.b d.o)∧CS q B0 V' (n+kE ak) (Q++fC a' bG) sv'∧aY V' (λb=>(V.heap.size<=b∧b < V'.heap.size∧sv'.ownBlock≠some b)∧dF V' V.heap.size b 0 bG) a' m cap []∧(∀c∈iq bG,V.heap.size<=c∧c < V'.heap.size∧sv'.ownBlock≠some c)∧(blk a' m++iq bG).Nodup∧Kc q sv V V'∧Nw sv sv' V:=by
 obtain ⟨x,hx⟩:=z.at_ h hi;have cZ:=h.cZ;have HN:=hide (RL a m c ak.vals V (by omega) (by rw [Fo.aB,Fit.len hf,dz];rfl) hf.one hv);have HR:=hide (yo q.CB x V);have HH:=hide h;have HF:=hide hf;have hlc:i < q.lc:=by have:=z.le.1;omega
 have HQ:=hide hQ;have HT:=hide (And.intro htb htn);have HSB:=hide hsb;have ku:=hide hn;have BA:Hid (ak.wt<=1048576):=by show _<=_;omega
 have hmx:(m:Int)<=9223372036854775807:=by omega
 clear h hv z hf hQ htb htn hsb hn;go_enter Tryz.func92,Tryz.ntmps92;go_wp2_with (first | (go_at_call 119;refine HR.out.mono ?_;rintro e w ⟨rfl,rfl⟩) | (go_at_call 124;refine HN.out.mono ?_;rintro e w1 ⟨a',cap,rfl,r1,r2⟩;have HR1:=hide r1;have HR2:=hide r2;have hcap:=r1.1;clear r1 r2))
 by_cases h0:0 < m
 .obtain ⟨ab,rfl,⟨b1,b2⟩,hc,hfz⟩:=HR1.out.2.2 h0
  have HAB:Hid (w.heap.size<=ab∧ab < w1.heap.size):=⟨b1,b2⟩
  have HI:Hid (∃D D' R sv',LA q B0 w w1 w1 n Q sv ab m ak 0 D D' R sv'):=⟨.nil,.nil,ak,sv,⟨rfl,trivial,HF.out,trivial,rfl,by simpa [kE,aJ] using HH.out.keep HR2.out,trivial,λd hd=>by simp [aJ] at hd,λc hc=>by simp [iq] at hc,by simp [iq],by simpa using hc,hfz,Kept.refl _ _,Nw.refl _ _,HSB.out⟩⟩
  clear hc hfz b1 b2
  go_loopw [14,32] (λ_ CL wr=>∃j:Nat,CL=.int .i64 j∧j<=m∧Hid (∃D D' R sv',LA q B0 w w1 wr n Q sv ab m ak j D D' R sv')) (λ_ CL _=>m - (intOf CL).toNat)
  case atStart=>exact ⟨0,rfl,Nat.zero_le _,HI⟩
  case round=>
   obtain ⟨j,rfl,hj,hI⟩:=hrel
   by_cases hlt:j < m
   .obtain ⟨D,D',R,sv',la⟩:=hI.out
    have HW:=hide (la.round hlt HH.out HR2.out.size HAB.out HT.out.1 HR2.out HT.out.2 BA.out ku.out HQ.out);have hjj:(j:Int) < m:=by omega
    clear la hI;go_wp2_with fail;refine HW.out.mono ?_;rintro e w2 ⟨rfl,HI2⟩;clear HW;exact zz193
   .have e:j=m:=by omega
    subst e;go_wp2_with fail;go_ret;obtain ⟨D,D',R,sv',la⟩:=hI.out;have hz1:=HR2.out.size;have hR:R=.nil:=by have:=la.fr;rw [Nat.sub_self] at this;exact ai this
    subst hR;have hD:D=ak:=by have:=la.eq;rwa [Fo.jl] at this
    subst hD;have hab:=HAB.out;have zr:=la.kp.size;have O0:sv'.ownBlock≠some ab:=la.nw.ne hab.2 (λe=>by have:=(HH.out.hi ab e).2;omega);refine ⟨some ⟨ab,0,none⟩,cap,D',sv',rfl,la.sm,la.bd,la.cb,la.cs,⟨HR1.out.1,HR1.out.2.1,λ_=>⟨ab,rfl,⟨⟨hab.1,by omega,O0⟩,la.at_⟩,bD.nil _ _ _,la.fz⟩⟩,λc hc=>?_,?_,?_,(Nw.refl sv w).trans la.nw hz1⟩
    .obtain ⟨n1,n2,n3⟩:=la.nb c hc
     exact ⟨by omega,n2,n3⟩
    .rw [aT h0]
     refine List.nodup_append.2 ⟨by simp,la.nd,λa ha b hb e=>?_⟩;subst e;have e2:a=ab:=by simpa using ha
     have:=(la.nb a hb).1
     omega
    .exact ⟨la.kp.os.trans HR2.out.os,la.kp.tape.trans HR2.out.tape,la.kp.output.trans HR2.out.output,by omega,λc hc hs=>(la.kp.block c (by omega) ⟨by omega,hs.1,hs.2.1,hs.2.2⟩).trans (HR2.out.block c hc trivial)⟩
 .have e:m=0:=by omega
  subst e;have HI:=HH
  go_loopw [14,32] (λ_ CL wr=>wr=w1∧CL=.int .i64 0) (λ_ _ _=>0)
  case atStart=>exact ⟨rfl,rfl⟩
  case round=>
   obtain ⟨rfl,rfl⟩:=hrel;go_wp2_with fail;go_ret;have hak:ak=.nil:=ai HF.out;subst hak;refine ⟨a',cap,.nil,sv,rfl,trivial,rfl,(λd hd=>by cases a' <;> simp [fC,aJ] at hd),?_,⟨HR1.out.1,HR1.out.2.1,λh=>absurd h (Nat.lt_irrefl 0)⟩,λc hc=>by simp [iq] at hc,by rw [jv];simp [iq],Kc.of HR2.out,Nw.refl _ _⟩
   have:fC a' .nil=[]:=by cases a' <;> simp [fC,aJ]
   rw [this,List.append_nil];exact HH.out.keep HR2.out
structure Gd (q:Cq) (B0:World) (P:Fo->Prop):Prop where
 fit:∀x,P x->Fit E x (E 3)
 subs:∀x,P x->x.av B0 (q.bs B0)
 wt:∀x,P x->x.wt<=1048576
 gK:∀x,P x->∀b o,∀e∈aS b o (kF x),P e.x
 gA:∀x,P x->∀b o,∀e∈aJ b o (aF x),P e.x
 cK:∀x,P x->∀cap V,Kept (q.bs B0) B0 V->Calls Tryz.prog 51 #[.pointer (some ⟨q.G,0,none⟩),.slice (kA x) (kN x) cap] V λe V'=>∃i:Nat,e=.returned (.int .i64 (i:Int))∧i < q.nl∧Kept (λ_=>True) V V'
 cA:∀x,P x->∀cap V,Kept (q.bs B0) B0 V->Calls Tryz.prog 93 #[.pointer (some ⟨q.G,0,none⟩),.slice (aA x) (aN x) cap] V λe V'=>∃i:Nat,e=.returned (.int .i64 (i:Int))∧i < q.nl∧Kept (λ_=>True) V V'
def Eh (x:Fo):Nat:=1+2 * x.wt
def fD (Q:List Nd):Nat:=(Q.map (λd=>Eh d.x)).sum
theorem BQ (Q R:List Nd):fD (Q++R)=fD Q+fD R:=by simp [fD]
theorem qo (d:Nd) (Q:List Nd):fD (d ::Q)=Eh d.x+fD Q:=by simp [fD]
theorem wJ:∀Q:List Nd,Q.length<=fD Q
 | []=>Nat.le_refl _
 | d ::Q=>by
  have:=wJ Q
  rw [qo,List.length_cons];unfold Eh;omega
theorem Jt (b:Nat):∀(n o:Nat) (F:Fo),Fit E F (rep (E 3) n)->fD (aS b o F)=n+2 * F.wt
 | 0,o,F,h=>by rw [ai h];rfl
 | n+1,o,F,h=>by
  obtain ⟨x,q,rfl,hx,hq,hl⟩:=Fit.split (fs:=E 3) (gs:=rep (E 3) n) h;have ih:=Jt b n (o+7) q hq;obtain ⟨k,nm,mn,la,ln,lc,lk,na,nn,nc,nk,ka,kn,kc,kk,aa,an,ac,ak,rfl,-⟩:=ag hx;simp only [Fo.app,aS];rw [qo,ih];simp only [Eh,Fo.wt];omega
theorem Ju (b:Nat):∀(n o:Nat) (F:Fo),Fit E F (rep (E 2) n)->fD (aJ b o F)+kE F<=2 * n+2 * F.wt
 | 0,o,F,h=>by rw [ai h];simp [aJ,kE,fD]
 | n+1,o,F,h=>by
  obtain ⟨x,q,rfl,hx,hq,hl⟩:=Fit.split (fs:=E 2) (gs:=rep (E 2) n) h;have ih:=Ju b n (o+9) q hq;obtain ⟨au,ca,cn,cc,ck,y,rfl,-,hck,hy⟩:=aK hx;obtain ⟨k,nm,mn,la,ln,lc,lk,na,nn,nc,nk,ka,kn,kc,kk,aa,an,ac,ak,rfl,-⟩:=ag hy;simp only [Fo.app,aJ,kE];rw [qo];simp only [Eh,Fo.wt] at ih ⊢;omega
theorem QC:∀(Q R:List Nd),Q.map Nd.x=R.map Nd.x->fD Q=fD R:=λQ R h=>by
 have e:∀L:List Nd,fD L=((L.map Nd.x).map Eh).sum:=λL=>by simp [fD,Function.comp_def]
 rw [e,e,h]
def Bo (q:Cq) (tb nx b o:Nat) (X:World):Prop:=
 X.cell? ⟨tb,0,none⟩=some (.pointer (some ⟨q.CB,0,none⟩))∧X.cell? ⟨nx,0,none⟩=some (.pointer (some ⟨b,o,none⟩))∧X.cell? ⟨nx,1,none⟩=some (.bool true)∧X.cell? ⟨q.CB,0,none⟩=some (.pointer (some ⟨q.G,0,none⟩))
structure PC (q:Cq) (B0 Vb:World) (S:Nat->Prop) (tb nx b:Nat) (sv0:Value):Prop where
 sb:S b
 s1:∀c,S c->c < Vb.heap.size∧(c=q.c0∨B0.heap.size<=c)∧sv0.ownBlock≠some c∧c≠tb∧c≠nx
 bx:(B0.heap.size<=tb∧tb < Vb.heap.size)∧(B0.heap.size<=nx∧nx < Vb.heap.size)∧sv0.ownBlock≠some tb∧sv0.ownBlock≠some nx
 hz:B0.heap.size<=Vb.heap.size
 lt:(q.CB < B0.heap.size∧q.TB < B0.heap.size)∧q.c0 < B0.heap.size∧q.CB≠q.TB∧q.CB≠q.c0∧q.TB≠q.c0
structure PB (q:Cq) (B0 Vb:World) (S:Nat->Prop) (tb nx b o:Nat) (sv0:Value) (L:List Value) (n:Nat) (Q:List Nd) (sv:Value) (X:World):Prop where
 cs:CS q B0 X n Q sv
 bo:Bo q tb nx b o X
 ce:bD X L b o
 kp:∀c j,S c->¬(c=b∧o<=j∧j < o+7)->X.cell? ⟨c,j,none⟩=Vb.cell? ⟨c,j,none⟩
 fz:∀c j,S c->X.frozen? ⟨c,j,none⟩=false
 nw:Nw sv0 sv Vb
 zz:Vb.heap.size<=X.heap.size
def Tw (lo hi:Nat) (sv:Value) (c:Nat):Prop:=lo<=c∧c < hi∧sv.ownBlock≠some c
section
variable {q:Cq} {B0 Vb X X':World} {S:Nat->Prop} {tb nx b o:Nat} {sv0 sv sv':Value} {L:List Value} {n n':Nat} {Q Q':List Nd}
theorem PB.call (h:PB q B0 Vb S tb nx b o sv0 L n Q sv X) (pc:PC q B0 Vb S tb nx b sv0) (k:Kc q sv X X') (c:CS q B0 X' n' Q' sv') (w:Nw sv sv' X):PB q B0 Vb S tb nx b o sv0 L n' Q' sv' X':=by
 obtain ⟨⟨l1,l2⟩,l3,l4,l5,l6⟩:=pc.lt;obtain ⟨⟨t1,t2⟩,⟨x1,x2⟩,t3,x3⟩:=pc.bx;have zz:=h.zz;have ht:tb≠q.CB∧tb≠q.TB∧sv.ownBlock≠some tb:=⟨by omega,by omega,h.nw.ne t2 t3⟩
 have hx:nx≠q.CB∧nx≠q.TB∧sv.ownBlock≠some nx:=⟨by omega,by omega,h.nw.ne x2 x3⟩
 have hS:∀c,S c->c≠q.CB∧c≠q.TB∧sv.ownBlock≠some c:=λc hc=>by
  obtain ⟨y1,y2,y3,-⟩:=pc.s1 c hc;exact ⟨by rcases y2 with e | e <;> omega,by rcases y2 with e | e <;> omega,h.nw.ne y1 y3⟩
 have WU:∀c,S c->c < X.heap.size:=λc hc=>by have:=(pc.s1 c hc).1;omega
 refine ⟨c,⟨(k.cell (p:=⟨tb,0,none⟩) (by show tb < _;omega) ht).trans h.bo.1,(k.cell (p:=⟨nx,0,none⟩) (by show nx < _;omega) hx).trans h.bo.2.1,(k.cell (p:=⟨nx,1,none⟩) (by show nx < _;omega) hx).trans h.bo.2.2.1,c.cG⟩,
  h.ce.kept k (WU b pc.sb) (hS b pc.sb),λc j hc hn=>(k.cell (p:=⟨c,j,none⟩) (WU c hc) (hS c hc)).trans (h.kp c j hc hn),λc j hc=>(k.frozen (p:=⟨c,j,none⟩) (WU c hc) (hS c hc)).trans (h.fz c j hc),h.nw.trans w zz,Nat.le_trans zz k.size⟩
theorem PB.keep (h:PB q B0 Vb S tb nx b o sv0 L n Q sv X) (pc:PC q B0 Vb S tb nx b sv0) (k:Kept (λ_=>True) X X'):PB q B0 Vb S tb nx b o sv0 L n Q sv X':=h.call pc (Kc.of k) (h.cs.keep k) (Nw.refl _ _)
theorem PB.set (h:PB q B0 Vb S tb nx b o sv0 L n Q sv X) (pc:PC q B0 Vb S tb nx b sv0) (i:Nat) (hi:i < L.length) (hL:L.length=7) (v:Value):(X.cell? ⟨b,o+i,none⟩=L[i]?∧X.frozen? ⟨b,o+i,none⟩=false)∧PB q B0 Vb S tb nx b o sv0 (L.set i v) n Q sv (X.setCell ⟨b,o+i,none⟩ v):=by
 obtain ⟨⟨l1,l2⟩,l3,l4,l5,l6⟩:=pc.lt;obtain ⟨⟨t1,t2⟩,⟨x1,x2⟩,t3,x3⟩:=pc.bx;obtain ⟨y1,y2,y3,y4,y5⟩:=pc.s1 b pc.sb;have hc:X.cell? ⟨b,o+i,none⟩=some L[i]:=h.ce i _ (List.getElem?_eq_getElem hi);have hb:b=q.c0∨B0.heap.size<=b:=y2;have hcs:=h.cs.set (j:=o+i) v hb (h.nw.ne y1 y3);refine ⟨⟨by rw [hc,List.getElem?_eq_getElem hi],h.fz b _ pc.sb⟩,hcs,⟨?_,?_,?_,hcs.cG⟩,λj u hu=>?_,λc j hc' hn=>?_,λc j hc'=>by rw [World.frozen?_setCell];exact h.fz c j hc',h.nw,by simpa [World.setCell] using h.zz⟩
 .rw [World.cell?_setCell_other _ _ _ _ (λe=>y4 (congrArg Addr.block e))];exact h.bo.1
 .rw [World.cell?_setCell_other _ _ _ _ (λe=>y5 (congrArg Addr.block e))];exact h.bo.2.1
 .rw [World.cell?_setCell_other _ _ _ _ (λe=>y5 (congrArg Addr.block e))];exact h.bo.2.2.1
 .by_cases e:j=i
  .subst e
   rw [List.getElem?_set_self hi] at hu;simp only [Option.some.injEq] at hu;subst hu;exact World.cell?_setCell_same _ _ _ hc
  .rw [List.getElem?_set_ne (λx=>e x.symm)] at hu
   rw [World.cell?_setCell_other _ _ _ _ (λx=>by have:=congrArg Addr.off x;simp at this;omega)];exact h.ce j u hu
 .rw [World.cell?_setCell_other _ _ _ _ (λx=>hn ?_)]
  .exact h.kp c j hc' hn
  .have e1:=congrArg Addr.block x
   have e2:=congrArg Addr.off x;simp at e1 e2;exact ⟨e1.symm,by omega,by omega⟩
theorem aY.kc {lo hi:Nat} {a:Option Addr} {m cap:Nat} {M:List Value} (h:aY X (Tw lo hi sv) a m cap M) (pc:PC q B0 Vb S tb nx b sv0) (hlo:Vb.heap.size<=lo) (hhi:hi<=X.heap.size) (k:Kc q sv X X') (w:Nw sv sv' X):aY X' (Tw lo hi sv') a m cap M:=by
 obtain ⟨⟨l1,l2⟩,l3,l4,l5,l6⟩:=pc.lt;have hz:=pc.hz;refine h.keep k (λc hc=>⟨⟨?_,?_,hc.2.2⟩,by have:=hc.2.1;omega⟩) (λc hc=>⟨hc.1,hc.2.1,w.ne (by have:=hc.2.1;omega) hc.2.2⟩)
 .have:=hc.1;omega
 .have:=hc.1;omega
theorem aY.st {lo hi i:Nat} {a:Option Addr} {m cap:Nat} {M:List Value} {v:Value} (h:aY X (Tw lo hi sv) a m cap M) (pc:PC q B0 Vb S tb nx b sv0) (hlo:Vb.heap.size<=lo) (hhi:hi<=X.heap.size):aY (X.setCell ⟨b,i,none⟩ v) (Tw lo hi sv) a m cap M:=
 h.keep (Kept.setCell (λc=>c≠b) _ _ _ (λx=>x rfl)) (λc hc=>⟨by show c≠b;have:=hc.1;have:=(pc.s1 b pc.sb).1;omega,by have:=hc.2.1;omega⟩) (λ_ hc=>hc)
end
def L7 (k:Int) (nm:ByteArray) (mn:Bool) (la:Option Addr) (ln lc:Nat) (na:Option Addr) (nn nc:Nat) (ka:Option Addr) (kn kc:Nat) (aa:Option Addr) (an ac:Nat):List Value:=
 [.int .i64 k,.string nm,.bool mn,.slice la ln lc,.slice na nn nc,.slice ka kn kc,.slice aa an ac]
theorem DK {q:Cq} {B0 X:World} {n:Nat} {Q:List Nd} {sv:Value} (h:CS q B0 X n Q sv) {a:Option Addr} {m c:Nat} {F:Fo} (hs:Fo.Sub B0 (q.bs B0) a m c F) (hl:0 < F.len↔0 < m):Hv X a m F.vals:=λhp=>by
 obtain ⟨b,o,e,hb,hc,-⟩:=hs.2.2 (hl.2 hp);exact ⟨b,o,e,Nat.lt_of_lt_of_le hb.1 h.vw,hc.kept h.kb hb.1 hb⟩
section
variable {q:Cq} {B0 Vb X:World} {S:Nat->Prop} {tb nx b o:Nat} {sv0 sv:Value} {n:Nat} {Q:List Nd} {k:Int} {nm:ByteArray} {mn:Bool} {la na ka aa:Option Addr} {ln lc nn nc kn kc an ac:Nat} {lk nk kk ak:Fo}
theorem st1 (h:PB q B0 Vb S tb nx b o sv0 (L7 k nm mn la ln lc na nn nc ka kn kc aa an ac) n Q sv X) (pc:PC q B0 Vb S tb nx b sv0) (hn:n < 10000000) (hnm:nm.size<=16777216):
  Calls Tryz.prog 88 #[.pointer (some ⟨q.CB,0,none⟩),.string nm] X λe V1=>e=.returned (.string nm)∧Bo q tb nx b o V1∧(V1.cell? ⟨b,o+1,none⟩=some (.string nm)∧V1.frozen? ⟨b,o+1,none⟩=false)∧Bo q tb nx b o (V1.setCell ⟨b,o+1,none⟩ (.string nm))∧Hid (PB q B0 Vb S tb nx b o sv0 (L7 k nm mn la ln lc na nn nc ka kn kc aa an ac) (n+1) Q sv (V1.setCell ⟨b,o+1,none⟩ (.string nm))∧X.heap.size<=(V1.setCell ⟨b,o+1,none⟩ (.string nm)).heap.size):=by
 refine (He h.cs.cT h.cs.tm hn nm hnm).mono ?_;rintro e V1 ⟨rfl,t1,k1⟩;have h1:=h.call pc (Kc.YL k1) (h.cs.texts k1 t1) (Nw.refl _ _);obtain ⟨⟨c1,f1⟩,p1⟩:=h1.set pc 1 (by simp [L7]) rfl (.string nm);exact ⟨rfl,h1.bo,⟨c1,f1⟩,p1.bo,p1,by have:=k1.size;simpa [World.setCell] using this⟩
theorem st2 (h:PB q B0 Vb S tb nx b o sv0 (L7 k nm mn la ln lc na nn nc ka kn kc aa an ac) n Q sv X) (pc:PC q B0 Vb S tb nx b sv0) (hn:n+nn < 10000000) (hf:Fit E nk (rep (E 1) nn)) (hs:Fo.Sub B0 (q.bs B0) na nn nc nk) (hw:nn+nk.wt<=1048576):
  Calls Tryz.prog 89 #[.pointer (some ⟨q.CB,0,none⟩),.slice na nn nc,.bool true] X λe V1=>∃a' c',e=.returned (.slice a' nn c')∧Bo q tb nx b o V1∧(V1.cell? ⟨b,o+4,none⟩=some (.slice na nn nc)∧V1.frozen? ⟨b,o+4,none⟩=false)∧Bo q tb nx b o (V1.setCell ⟨b,o+4,none⟩ (.slice a' nn c'))∧Hid (PB q B0 Vb S tb nx b o sv0 (L7 k nm mn la ln lc a' nn c' ka kn kc aa an ac) (n+nn) Q sv (V1.setCell ⟨b,o+4,none⟩ (.slice a' nn c'))∧aY (V1.setCell ⟨b,o+4,none⟩ (.slice a' nn c')) (Tw X.heap.size V1.heap.size sv) a' nn c' nk.vals∧X.heap.size<=V1.heap.size):=by
 obtain ⟨L,e1,e2,e3⟩:=strs nn nk hf;have hv:=DK h.cs hs (ib hf (by decide));rw [e1] at hv;refine (xH h.cs.cT h.cs.tm pc.lt.2.2.1 na nn nc L e2 hn (by omega) (λx hx=>by have:=e3 x hx;omega) hv).mono ?_;rintro e V1 ⟨a',c',rfl,r1,t1,k1⟩;have h1:=h.call pc (Kc.YL k1) (h.cs.texts k1 t1) (Nw.refl _ _);obtain ⟨⟨c1,f1⟩,p1⟩:=h1.set pc 4 (by simp [L7]) rfl (.slice a' nn c');have r2:aY V1 (Tw X.heap.size V1.heap.size sv) a' nn c' nk.vals:=by
  rw [e1];exact r1.keep (Kept.refl (λ_=>True) _) (λc hc=>⟨trivial,hc.2⟩) (λc hc=>⟨hc.1,hc.2,λe=>by have:=(h.cs.hi c e).2;have:=hc.1;omega⟩)
 exact ⟨a',c',rfl,h1.bo,⟨c1,f1⟩,p1.bo,p1,r2.st pc h.zz (Nat.le_refl _),k1.size⟩
theorem st3 (h:PB q B0 Vb S tb nx b o sv0 (L7 k nm mn la ln lc na nn nc ka kn kc aa an ac) n Q sv X) (pc:PC q B0 Vb S tb nx b sv0) (p:Value) (hf:Fit E lk (rep (E 0) ln)) (hs:Fo.Sub B0 (q.bs B0) la ln lc lk) (hw:ln<=1048576):
  Calls Tryz.prog 90 #[.pointer (some ⟨q.CB,0,none⟩),p,.slice la ln lc,.bool true] X λe V1=>∃a' c',e=.returned (.tuple #[.slice a' ln c',.bool true])∧Bo q tb nx b o V1∧(V1.cell? ⟨b,o+2+1,none⟩=some (.slice la ln lc)∧V1.frozen? ⟨b,o+2+1,none⟩=false)∧Bo q tb nx b o (V1.setCell ⟨b,o+2+1,none⟩ (.slice a' ln c'))∧Hid (PB q B0 Vb S tb nx b o sv0 (L7 k nm mn a' ln c' na nn nc ka kn kc aa an ac) n Q sv (V1.setCell ⟨b,o+2+1,none⟩ (.slice a' ln c'))∧aY (V1.setCell ⟨b,o+2+1,none⟩ (.slice a' ln c')) (Tw X.heap.size V1.heap.size sv) a' ln c' lk.vals∧Kept (λ_=>True) X V1):=by
 have hv:=DK h.cs hs (ib hf (by decide));refine (MU q.CB p la ln lc lk.vals X hw (by rw [Fo.aB,Fit.len hf,dz];rfl) hf.one hv).mono ?_;rintro e V1 ⟨a',c',rfl,r1,k1⟩;have h1:=h.keep pc k1;obtain ⟨⟨c1,f1⟩,p1⟩:=h1.set pc 3 (by simp [L7]) rfl (.slice a' ln c');have r2:aY V1 (Tw X.heap.size V1.heap.size sv) a' ln c' lk.vals:=
  r1.keep (Kept.refl (λ_=>True) _) (λc hc=>⟨trivial,hc.2⟩) (λc hc=>⟨hc.1,hc.2,λe=>by have:=(h.cs.hi c e).2;have:=hc.1;omega⟩)
 exact ⟨a',c',rfl,h1.bo,⟨c1,f1⟩,p1.bo,p1,r2.st pc h.zz (Nat.le_refl _),k1⟩
theorem st4 {P:Fo->Prop} (gd:Gd q B0 P) (z:Sz q B0) (h:PB q B0 Vb S tb nx b o sv0 (L7 k nm mn la ln lc na nn nc ka kn kc aa an ac) n Q sv X) (pc:PC q B0 Vb S tb nx b sv0) {x:Fo} (hP:P x) (hx1:kA x=ka) (hx2:kN x=kn) (p:Value) (hf:Fit E kk (rep (E 3) kn)) (hs:Fo.Sub B0 (q.bs B0) ka kn kc kk) (hw:kn<=1048576) (hQ:Q.length+kn < 10000000):
  Calls Tryz.prog 51 #[.pointer (some ⟨q.G,0,none⟩),.slice ka kn kc] X λe w1=>∃i:Nat,e=.returned (.int .i64 (i:Int))∧Bo q tb nx b o w1∧w1.cell? ⟨b,o+5,none⟩=some (.slice ka kn kc)∧Hid (Calls Tryz.prog 91 #[.pointer (some ⟨q.CB,0,none⟩),p,.slice ka kn kc,.int .i64 i,.bool true,.func (.func 53) #[.pointer (some ⟨q.CB,0,none⟩)] #[]] w1 λe V1=>∃a' c',e=.returned (.slice a' kn c')∧Bo q tb nx b o V1∧(V1.cell? ⟨b,o+5,none⟩=some (.slice ka kn kc)∧V1.frozen? ⟨b,o+5,none⟩=false)∧Bo q tb nx b o (V1.setCell ⟨b,o+5,none⟩ (.slice a' kn c'))∧Hid (∃sv',PB q B0 Vb S tb nx b o sv0 (L7 k nm mn la ln lc na nn nc a' kn c' aa an ac) n (Q++eP a' kk) sv' (V1.setCell ⟨b,o+5,none⟩ (.slice a' kn c'))∧aY (V1.setCell ⟨b,o+5,none⟩ (.slice a' kn c')) (Tw X.heap.size V1.heap.size sv') a' kn c' kk.vals∧Kc q sv X V1∧Nw sv sv' X)):=by
 have hc:=gd.cK x hP kc X h.cs.kb;rw [hx1,hx2] at hc;refine hc.mono ?_;rintro e w1 ⟨i,rfl,hi,k0⟩;have h0:=h.keep pc k0;refine ⟨i,rfl,h0.bo,h0.ce 5 _ rfl,?_⟩;have hv:=DK h0.cs hs (ib hf (by decide));refine (Kz z h0.cs p ka kn kc i kk hf hv hw hi hQ).mono ?_;rintro e V1 ⟨a',c',sv',rfl,c1,r1,k1,w1'⟩;have h1:=h0.call pc k1 c1 w1';obtain ⟨⟨c2,f2⟩,p2⟩:=h1.set pc 5 (by simp [L7]) rfl (.slice a' kn c');have r2:aY V1 (Tw X.heap.size V1.heap.size sv') a' kn c' kk.vals:=
  r1.keep (Kept.refl (λ_=>True) _) (λc hc=>⟨trivial,hc.2.1⟩) (λc hc=>⟨by have:=k0.size;have:=hc.1;omega,hc.2.1,hc.2.2⟩)
 exact ⟨a',c',rfl,h1.bo,⟨c2,f2⟩,p2.bo,sv',p2,r2.st pc h.zz (Nat.le_refl _),(Kc.of k0).trans k1 (Nw.refl _ _),(Nw.refl sv X).trans w1' k0.size⟩
theorem st5 {P:Fo->Prop} (gd:Gd q B0 P) (z:Sz q B0) (h:PB q B0 Vb S tb nx b o sv0 (L7 k nm mn la ln lc na nn nc ka kn kc aa an ac) n Q sv X) (pc:PC q B0 Vb S tb nx b sv0) {x:Fo} (hP:P x) (hx1:aA x=aa) (hx2:aN x=an) (p:Value) (hf:Fit E ak (rep (E 2) an)) (hs:Fo.Sub B0 (q.bs B0) aa an ac ak) (hw:an+ak.wt<=1048576) (hn:n+kE ak < 10000000) (hQ:Q.length+an < 10000000):
  Calls Tryz.prog 93 #[.pointer (some ⟨q.G,0,none⟩),.slice aa an ac] X λe w1=>∃i:Nat,e=.returned (.int .i64 (i:Int))∧Bo q tb nx b o w1∧w1.cell? ⟨b,o+6,none⟩=some (.slice aa an ac)∧Hid (Calls Tryz.prog 92 #[.pointer (some ⟨q.CB,0,none⟩),p,.slice aa an ac,.int .i64 i,.bool true,.func (.func 94) #[] #[.pointer (some ⟨tb,0,none⟩)]] w1 λe V1=>∃a' c',e=.returned (.slice a' an c')∧Bo q tb nx b o V1∧(V1.cell? ⟨b,o+6,none⟩=some (.slice aa an ac)∧V1.frozen? ⟨b,o+6,none⟩=false)∧Bo q tb nx b o (V1.setCell ⟨b,o+6,none⟩ (.slice a' an c'))∧Hid (∃bG sv',bG.aG ak∧(aJ 0 0 bG).map Nd.x=(aJ 0 0 ak).map Nd.x∧(∀d∈fC a' bG,bD (V1.setCell ⟨b,o+6,none⟩ (.slice a' an c')) d.x.vals d.b d.o)∧PB q B0 Vb S tb nx b o sv0 (L7 k nm mn la ln lc na nn nc ka kn kc a' an c') (n+kE ak) (Q++fC a' bG) sv' (V1.setCell ⟨b,o+6,none⟩ (.slice a' an c'))∧aY (V1.setCell ⟨b,o+6,none⟩ (.slice a' an c')) (λc=>Tw X.heap.size V1.heap.size sv' c∧dF (V1.setCell ⟨b,o+6,none⟩ (.slice a' an c')) X.heap.size c 0 bG) a' an c' []∧(∀c∈iq bG,Tw X.heap.size V1.heap.size sv' c)∧(blk a' an++iq bG).Nodup∧Kc q sv X V1∧Nw sv sv' X)):=by
 have hc:=gd.cA x hP ac X h.cs.kb;rw [hx1,hx2] at hc;refine hc.mono ?_;rintro e w1 ⟨i,rfl,hi,k0⟩;have h0:=h.keep pc k0;refine ⟨i,rfl,h0.bo,h0.ce 6 _ rfl,?_⟩;have hv:=DK h0.cs hs (ib hf (by decide));obtain ⟨⟨t1,t2⟩,-,t3,-⟩:=pc.bx;have hsub:ak.av B0 (q.bs B0):=by
  by_cases hl:0 < ak.len
  .obtain ⟨-,-,-,-,-,hh⟩:=hs.2.2 hl
   exact hh
  .rw [Fo.iD hl];trivial
 refine (Ls z h0.cs p h0.bo.1 ⟨t1,h0.nw.ne t2 t3⟩ aa an ac i ak hf hv hsub hw hi hn hQ).mono ?_;rintro e V1 ⟨a',c',bG,sv',rfl,sm,bd,cb,c1,r1,nb,nd,k1,w1'⟩;have h1:=h0.call pc k1 c1 w1';obtain ⟨⟨c2,f2⟩,p2⟩:=h1.set pc 6 (by simp [L7]) rfl (.slice a' an c');have hz:=h0.zz;have hzx:=h.zz;have hbl:=(pc.s1 b pc.sb).1;have kS:Kept (λc=>c≠b) V1 (V1.setCell ⟨b,o+6,none⟩ (.slice a' an c')):=Kept.setCell _ _ _ _ (λx=>x rfl);have hf':=sm.fit hf;have k0s:=k0.size;have k1s:=k1.size;have hblk:∀c∈blk a' an,Tw X.heap.size V1.heap.size sv' c∧dF V1 w1.heap.size c 0 bG:=λc hc=>by
  obtain ⟨⟨⟨y1,y2,y3⟩,y4⟩,-⟩:=r1.blk c hc;exact ⟨⟨by omega,y2,y3⟩,y4⟩
 have hnb:∀c∈iq bG,Tw X.heap.size V1.heap.size sv' c:=λc hc=>⟨by have:=(nb c hc).1;omega,(nb c hc).2⟩
 have Pq:∀(m o:Nat) (F:Fo) (W:World) (lo lo' c:Nat),lo'<=lo->Fit E F (rep (E 2) m)->dF W lo c o F->dF W lo' c o F:=by
  intro m
  induction m with
  | zero=>intro o F W lo lo' c _ hF _;rw [ai hF];trivial
  | succ m ih=>
   intro o F W lo lo' c hl hF ha;obtain ⟨x,q',rfl,hx,hq,-⟩:=Fit.split (fs:=E 2) (gs:=rep (E 2) m) hF;obtain ⟨au,ca,cn,cc,ck,y,rfl,-,hck,hy⟩:=aK hx;obtain ⟨k',kD,GN,la',GQ,fu,lk',na',GR,bI,Bh,dC,CG,eY,xU,dA,GU,eZ,ML,rfl,-⟩:=ag hy;simp only [Fo.app,dF] at ha ⊢;exact ⟨ha.1,ha.2.1,⟨ha.2.2.1.1,ha.2.2.1.2.1,λhp=>by
    obtain ⟨b,o,e,s,r⟩:=ha.2.2.1.2.2 hp;exact ⟨b,o,e,⟨by omega,s.2⟩,r.1,pM cn ck hck⟩⟩,ha.2.2.2.1,ih (o+9) q' W lo lo' c hl hq ha.2.2.2.2⟩
 refine ⟨a',c',rfl,h1.bo,⟨c2,f2⟩,p2.bo,bG,sv',sm,bd,λd hd=>?_,p2,⟨r1.1,r1.2.1,λhp=>?_⟩,hnb,nd,(Kc.of k0).trans k1 (Nw.refl _ _),(Nw.refl sv X).trans w1' k0s⟩
 .have IG:d.b≠b∧d.b < V1.heap.size:=by
   cases a' with
   | none=>simp [fC] at hd
   | some p'=>
    have hb1:=(wG an p'.off bG hf' d hd).1;have hp:0 < an:=by
     rcases Nat.eq_zero_or_pos an with e | e
     .subst e;rw [ai hf'] at hd;simp [fC,aJ] at hd
     .exact e
    obtain ⟨c,e,-⟩:=r1.2.2 hp
    cases e
    obtain ⟨⟨y1,y2,-⟩,-⟩:=hblk c (by rw [aT hp];simp);have hb1':d.b=c:=hb1;exact ⟨by omega,by omega⟩
  exact (cb d hd).kept kS IG.2 IG.1
 .obtain ⟨c,e,⟨⟨y1,y2,y3⟩,y4⟩,-,fz⟩:=r1.2.2 hp
  refine ⟨c,e,⟨⟨by omega,y2,y3⟩,?_⟩,bD.nil _ _ _,λj=>by rw [World.frozen?_setCell];exact fz j⟩;refine Pq an 0 bG _ w1.heap.size _ c k0s hf' (dF.keep kS.size an 0 bG hf' (λi hi=>⟨kS.cell (p:=⟨c,_,none⟩) y2 (by show c≠b;omega),kS.cell (p:=⟨c,_,none⟩) y2 (by show c≠b;omega)⟩) (λd hd j=>?_) y4)
  have:=hnb d hd
  exact ⟨kS.cell (p:=⟨d,j,none⟩) this.2.1 (by show d≠b;have:=this.1;omega),kS.frozen (p:=⟨d,j,none⟩) this.2.1 (by show d≠b;have:=this.1;omega)⟩
end
end Go.Proofs.YthfnobboalhihaaGreat
