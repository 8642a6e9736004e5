import Derived.Test.YthfnobboalhihaaGreatXk
import Derived.Test.YthfnobboalhihaaGreatYuK
import Derived.Test.YthfnobboalhihaaGreatYuA
namespace Go.Proofs.YthfnobboalhihaaGreat
open Go.RowKit Go.Joins
theorem zz156 {P:Prop} (h:P:=by
 simp only [List.getElem?_map,hd,List.getElem?_range f2,Option.map_some,Nd.pos,Option.some.injEq,Prod.mk.injEq] at hp;rw [<- hp.1];exact ho):P:=h
theorem zT {α β:Type} (f:α->List β):∀(L:List α) (k:Nat) (d:β),(L.flatMap f)[k]? =some d->∃(i:Nat) (x:α) (j:Nat),L[i]? =some x∧(f x)[j]? =some d∧k=((L.take i).map (λx=>(f x).length)).sum+j
 | [],k,d,h=>by simp at h
 | x ::L,k,d,h=>by
  rw [List.flatMap_cons,List.getElem?_append] at h
  split at h
  .exact ⟨0,x,k,rfl,h,by simp⟩
  .rename_i hk
   obtain ⟨i,y,j,h1,h2,h3⟩:=zT f L _ d h;refine ⟨i+1,y,j,by simpa using h1,h2,?_⟩;simp only [List.take_succ_cons,List.map_cons,List.sum_cons];omega
theorem JC {α β:Type}:∀{A:List α} {B:List β} {i:Nat} {x:α×β},(A.zip B)[i]? =some x->A[i]? =some x.1∧B[i]? =some x.2:=by
 intro A B i x h
 have:=List.getElem?_zip_eq_some.1 h
 exact this
theorem nU {α β:Type} {A:List α} {B:List β} {i:Nat} {a:α} {b:β} (h1:A[i]? =some a) (h2:B[i]? =some b):(A.zip B)[i]? =some (a,b):=List.getElem?_zip_eq_some.2 ⟨h1,h2⟩
section
variable {O:Nat->Nat} {W:World} {S:Nat->Prop} {KK AA:List (Nat×Nat)} {KR AR:List Fo} {Qd X:List Nd} {R:List Nat} {c tot:Nat}
theorem mo {α:Type} (g:(Nat×Nat)×α->Nat):∀(A:List (Nat×Nat)) (B:List α) (i:Nat),B.length=A.length->(∀(k:Nat) a b,A[k]? =some a->B[k]? =some b->g (a,b)=a.2)->(((A.zip B).take i).map g).sum=((A.take i).map Prod.snd).sum
 | [],[],i,_,_=>by simp
 | [],_ ::_,_,h,_=>by simp at h
 | _ ::_,[],_,h,_=>by simp at h
 | a ::A,b ::B,0,_,_=>by simp
 | a ::A,b ::B,i+1,h,hg=>by
  have ih:=mo g A B i (by simpa using h) (λk a b h1 h2=>hg (k+1) a b (by simpa using h1) (by simpa using h2));simp only [List.zip_cons_cons,List.take_succ_cons,List.map_cons,List.sum_cons,ih];rw [hg 0 a b rfl rfl]
theorem GI.BS (h:GI O W S KK AA KR AR Qd X R c tot) {i:Nat} {e:Nat×Nat} {r:Fo} (h1:KK[i]? =some e) (h2:KR[i]? =some r):(aS e.1 (O e.1) r).length=e.2:=by
 have:=congrArg List.length (lI O e.1 e.2 (O e.1) r (h.fk i e r h1 h2).1).1
 simpa using this
theorem GI.BU (h:GI O W S KK AA KR AR Qd X R c tot) {i:Nat} {e:Nat×Nat} {r:Fo} (h1:AA[i]? =some e) (h2:AR[i]? =some r):(aJ e.1 (O e.1) r).length=e.2:=by
 have:=congrArg List.length (lJ O e.1 e.2 (O e.1) r (h.fa i e r h1 h2).1).1
 simpa using this
theorem GI.eP (h:GI O W S KK AA KR AR Qd X R c tot) {k:Nat} {d:Nd} (hk:(bY O KK KR)[k]? =some d):∃(i:Nat) (e:Nat×Nat) (r:Fo) (j:Nat),KK[i]? =some e∧KR[i]? =some r∧j < e.2∧k=K.off KK i+j∧(aS e.1 (O e.1) r)[j]? =some d∧d.pos=(e.1,O e.1+j * 7):=by
 obtain ⟨i,⟨e,r⟩,j,h1,h2,h3⟩:=zT _ _ k d hk;obtain ⟨g1,g2⟩:=JC h1;have hl:(aS e.1 (O e.1) r).length=e.2:=h.BS g1 g2;have hj:j < e.2:=by have:=(List.getElem?_eq_some_iff.1 h2).1;dsimp only at this;omega
 have hp:=congrArg (λL=>L[j]?) (lI O e.1 e.2 (O e.1) r (h.fk i e r g1 g2).1).1;simp only [List.getElem?_map,List.getElem?_range hj,Option.map_some] at hp;have h2':(aS e.1 (O e.1) r)[j]? =some d:=h2;rw [h2'] at hp;refine ⟨i,e,r,j,g1,g2,hj,?_,h2',by simpa using hp⟩;rw [h3];congr 1;exact mo (λx=>(aS x.1.1 (O x.1.1) x.2).length) KK KR i h.lk (λk a b e1 e2=>h.BS e1 e2)
theorem GI.fC (h:GI O W S KK AA KR AR Qd X R c tot) {k:Nat} {d:Nd} (hk:(dw O AA AR)[k]? =some d):∃(i:Nat) (e:Nat×Nat) (r:Fo) (j:Nat),AA[i]? =some e∧AR[i]? =some r∧j < e.2∧k=A.off AA i+j∧(aJ e.1 (O e.1) r)[j]? =some d∧d.pos=(e.1,O e.1+j * 9+2):=by
 obtain ⟨i,⟨e,r⟩,j,h1,h2,h3⟩:=zT _ _ k d hk;obtain ⟨g1,g2⟩:=JC h1;have hl:(aJ e.1 (O e.1) r).length=e.2:=h.BU g1 g2;have hj:j < e.2:=by have:=(List.getElem?_eq_some_iff.1 h2).1;dsimp only at this;omega
 have hp:=congrArg (λL=>L[j]?) (lJ O e.1 e.2 (O e.1) r (h.fa i e r g1 g2).1).1;simp only [List.getElem?_map,List.getElem?_range hj,Option.map_some] at hp;have h2':(aJ e.1 (O e.1) r)[j]? =some d:=h2;rw [h2'] at hp;refine ⟨i,e,r,j,g1,g2,hj,?_,h2',by simpa using hp⟩;rw [h3];congr 1;exact mo (λx=>(aJ x.1.1 (O x.1.1) x.2).length) AA AR i h.la (λk a b e1 e2=>h.BU e1 e2)
theorem wY {α β:Type} (f:α->List β):∀L:List α,(L.flatMap f).length=(L.map (λx=>(f x).length)).sum
 | []=>rfl
 | x ::L=>by simp [wY f L]
theorem GI.qV (h:GI O W S KK AA KR AR Qd X R c tot):(bY O KK KR).length=K.off KK KK.length:=by
 unfold bY K.off;rw [wY]
 have:=mo (λx=>(aS x.1.1 (O x.1.1) x.2).length) KK KR KK.length h.lk (λk a b e1 e2=>h.BS e1 e2)
 rw [List.take_of_length_le (by rw [List.length_zip,h.lk];simp)] at this;exact this
theorem GI.EP (h:GI O W S KK AA KR AR Qd X R c tot):(dw O AA AR).length=A.off AA AA.length:=by
 unfold dw A.off;rw [wY]
 have:=mo (λx=>(aJ x.1.1 (O x.1.1) x.2).length) AA AR AA.length h.la (λk a b e1 e2=>h.BU e1 e2)
 rw [List.take_of_length_le (by rw [List.length_zip,h.la];simp)] at this;exact this
theorem GI.Ij (h:GI O W S KK AA KR AR Qd X R c tot) (ht:tot<=4000000):Bd KK AA:=by
 have hb:=h.bound;rw [List.length_append,h.qV,h.EP] at hb;have h1:=(List.nodup_append.1 h.nd).1;obtain ⟨h2,h3,-⟩:=List.nodup_append.1 h1;exact ⟨h2,h3,by omega,by omega,by omega,by omega⟩
theorem GI.YG (h:GI O W S KK AA KR AR Qd X R c tot):∀e∈KK,S e.1:=λe he=>by
 obtain ⟨i,hi⟩:=List.getElem?_of_mem he;obtain ⟨r,hr⟩:∃r,KR[i]? =some r:=⟨_,List.getElem?_eq_getElem (by rw [h.lk];exact (List.getElem?_eq_some_iff.1 hi).1)⟩
 obtain ⟨f1,f2⟩:=h.fk i e r hi hr;have hl:=h.BS hi hr;obtain ⟨d,hd⟩:∃d,(aS e.1 (O e.1) r)[0]? =some d:=⟨_,List.getElem?_eq_getElem (by omega)⟩
 have hm:d∈bY O KK KR:=List.mem_flatMap.2 ⟨(e,r),List.mem_of_getElem? (nU hi hr),List.mem_of_getElem? hd⟩;have ho:=(h.ok d (List.mem_append.2 (.inl hm))).1.at_;have hp:=congrArg (λL=>L[0]?) (lI O e.1 e.2 (O e.1) r f1).1;exact zz156
theorem GI.YH (h:GI O W S KK AA KR AR Qd X R c tot):∀e∈AA,S e.1:=λe he=>by
 obtain ⟨i,hi⟩:=List.getElem?_of_mem he;obtain ⟨r,hr⟩:∃r,AR[i]? =some r:=⟨_,List.getElem?_eq_getElem (by rw [h.la];exact (List.getElem?_eq_some_iff.1 hi).1)⟩
 obtain ⟨f1,f2⟩:=h.fa i e r hi hr;have hl:=h.BU hi hr;obtain ⟨d,hd⟩:∃d,(aJ e.1 (O e.1) r)[0]? =some d:=⟨_,List.getElem?_eq_getElem (by omega)⟩
 have hm:d∈dw O AA AR:=List.mem_flatMap.2 ⟨(e,r),List.mem_of_getElem? (nU hi hr),List.mem_of_getElem? hd⟩;have ho:=(h.ok d (List.mem_append.2 (.inr hm))).1.at_;have hp:=congrArg (λL=>L[0]?) (lJ O e.1 e.2 (O e.1) r f1).1;exact zz156
end
structure S1 (O:Nat->Nat) (A7 V1:World) (lo G wb:Nat) (KK AA:List (Nat×Nat)) (mk sk ma sa:Value) (tk:Nat):Prop where
 gk:K.GS O lo G V1 KK KK mk sk (K.iO KK KK.length)
 tK:K.TI O V1 tk KK []
 c2:V1.cell? ⟨G,2,none⟩=some (.slice (some ⟨tk,0,none⟩) (K.off KK KK.length) (K.off KK KK.length))
 ga:A.GS O lo G V1 AA AA ma sa A.zf
 R9:lo<=tk∧ma≠.map (some tk)∧sa.ownBlock≠some tk
 dM:∀M,mk=.map (some M)->sa.ownBlock≠some M
 dS:∀b,sk.ownBlock=some b->sa.ownBlock≠some b
 rg:∀j,j≠0->j≠1->j≠4->j≠5->j≠2->V1.cell? ⟨G,j,none⟩=A7.cell? ⟨G,j,none⟩
 kp:Kept (λd=>d < lo∧d≠G∧d≠wb) A7 V1
theorem Ou {O:Nat->Nat} {A7 V:World} {lo G wb fb:Nat} {KK AA:List (Nat×Nat)} {KR AR:List Fo} {tot:Nat} (h:GX O (λj=>A7.cell? ⟨G,j,none⟩) A7 (SB A7 lo G wb) lo G wb fb V KK AA KR AR [] [] [] 0 tot) (ht:tot<=4000000) (h2:∃v,A7.cell? ⟨G,2,none⟩=some v):
  Calls Tryz.prog 69 #[.pointer (some ⟨G,0,none⟩)] V λr V1=>(∃v,r=.returned v)∧∃mk sk ma sa tk,S1 O A7 V1 lo G wb KK AA mk sk ma sa tk:=by
 obtain ⟨⟨mk,sk,ma,sa,wv,st⟩,gi,hk⟩:=h;have bd:=gi.Ij ht;obtain ⟨v2,hv2⟩:=h2;have c2:V.cell? ⟨G,2,none⟩=some v2:=(st.rg 2 (by decide) (by decide) (by decide) (by decide)).trans hv2;obtain ⟨a1,a2,a3⟩:=st.apart;have Fj:∀d,ma=.map (some d)->d < V.heap.size:=λd e=>by
  rcases st.a.mp with ⟨-,h1⟩ | ⟨M,h1,h2,-⟩
  .rw [e] at h1;cases h1
  .rw [e] at h1;cases h1;exact h2.lt
 have Fq:∀d,sa.ownBlock=some d->d < V.heap.size:=λd e=>(World.ownsRow.lt st.a.ow d e).2
 have hG:=st.k.hg;have hv:=st.k.hv;refine (K.uI st.k bd.nk bd.lk (by have:=bd.ok;omega) ⟨v2,c2⟩).mono ?_;rintro r V1 ⟨hr,tk,g1,g2,g3,g4,g5,g6⟩;have lw:∀d,d < lo->d≠G->d≠G∧sk.ownBlock≠some d:=λd hd hG'=>⟨hG',λe=>by have:=az st.k.ow d e;omega⟩
 have ga:A.GS O lo G V1 AA AA ma sa A.zf:=st.a.frame g5 (λe he=>lw e.1 (st.a.lv e he).2.1 (st.a.lv e he).2.2) (λd hd=>by
  rcases hd with e | e
  .exact ⟨by have:=(a3 d e).2.2;omega,(a3 d e).1⟩
  .exact ⟨by have:=az st.a.ow d e;omega,λe2=>st.dS d e2 e⟩) ((g6 4 (by decide)).trans st.a.gm) ((g6 5 (by decide)).trans st.a.gs) g1.gf
 refine ⟨hr,mk,sk,ma,sa,tk,g1,g2,g3,ga,⟨by omega,λe=>by have:=Fj tk e;omega,λe=>by have:=Fq tk e;omega⟩,λM e=>(a2 M e).2.1,st.dS,λj b0 b1 b4 b5 b2=>(g6 j b2).trans (st.rg j b0 b1 b4 b5),hk.trans (g5.mono (λd _ hd=>lw d hd.1 hd.2.1))⟩
theorem Ov {O:Nat->Nat} {W A7 V1:World} {G wb fb M0:Nat} {KK AA:List (Nat×Nat)} {KR AR:List Fo} {Qd X:List Nd} {R:List Nat} {c tot:Nat} {mk sk ma sa:Value} {tk:Nat} (hB:WB W A7 G wb fb M0) (gi:GI O A7 (SB A7 (W.heap.size+5) G wb) KK AA KR AR Qd X R c tot) (ht:tot<=4000000) (h:S1 O A7 V1 (W.heap.size+5) G wb KK AA mk sk ma sa tk):
  Calls Tryz.prog 70 #[.pointer (some ⟨G,4,none⟩)] V1 λr V2=>(∃v,r=.returned v)∧∃ta,PN O V2 W.heap.size (W.heap.size+5) G KK AA mk sk ma sa tk ta [(0,0)] (.slice (some ⟨W.heap.size,0,none⟩) 1 1) M0 (.slice none 0 0) 0 []∧Kept (λd=>d < W.heap.size+5∧d≠G∧d≠wb) A7 V2∧W.heap.size<=tk∧W.heap.size<=ta:=by
 have bd:=gi.Ij ht;have e1:=hB.eG;have e2:=hB.ew;have e3:=hB.eM;have c6:V1.cell? ⟨G,6,none⟩=some (.slice none 0 0):=(h.rg 6 (by decide) (by decide) (by decide) (by decide) (by decide)).trans (hB.bg.ae 6 _ rfl);have hv:=h.gk.hv;have hG:=h.gk.hg;refine (A.uI h.ga bd.na bd.la (by have:=bd.oa;omega) ⟨_,c6⟩).mono ?_;rintro r V2 ⟨hr,ta,g1,g2,g3,g4,g5,g6⟩;have lw:∀d,d < W.heap.size+5->d≠G->d≠G∧sa.ownBlock≠some d:=λd hd hG'=>⟨hG',λe=>by have:=az h.ga.ow d e;omega⟩
 have ZW:∀d,mk=.map (some d)->W.heap.size+5<=d∧d < V1.heap.size:=λd e=>by
  rcases h.gk.mp with ⟨-,h1⟩ | ⟨M,h1,h2,h3⟩
  .rw [e] at h1;cases h1
  .rw [e] at h1;cases h1;exact ⟨h3,h2.lt⟩
 have ZX:∀d,ma=.map (some d)->W.heap.size+5<=d∧d < V1.heap.size:=λd e=>by
  rcases h.ga.mp with ⟨-,h1⟩ | ⟨M,h1,h2,h3⟩
  .rw [e] at h1;cases h1
  .rw [e] at h1;cases h1;exact ⟨h3,h2.lt⟩
 have ZY:∀d,sk.ownBlock=some d->W.heap.size+5<=d∧d < V1.heap.size:=λd e=>⟨az h.gk.ow d e,(World.ownsRow.lt h.gk.ow d e).2⟩
 have ZZ:∀d,sa.ownBlock=some d->W.heap.size+5<=d∧d < V1.heap.size:=λd e=>⟨az h.ga.ow d e,(World.ownsRow.lt h.ga.ow d e).2⟩
 have kk:Kept (λd=>d < W.heap.size+5∧d≠G∧d≠wb) A7 V2:=h.kp.trans (g5.mono (λd _ hd=>lw d hd.1 hd.2.1));have gk2:K.GS O (W.heap.size+5) G V2 KK KK mk sk (K.iO KK KK.length):=h.gk.frame g5 (λe he=>lw e.1 (h.gk.lv e he).2.1 (h.gk.lv e he).2.2) (λd hd=>by
  rcases hd with e | e
  .exact ⟨by have:=(ZW d e).1;omega,h.dM d e⟩
  .exact ⟨by have:=(ZY d e).1;omega,h.dS d e⟩) ((g6 0 (by decide)).trans h.gk.gm) ((g6 1 (by decide)).trans h.gk.gs) g1.gf
 have htk:=h.tK.lt;have tK2:K.TI O V2 tk KK []:=h.tK.kept g5 ⟨by have:=h.R9.1;omega,h.R9.2.2⟩;have VQ:∀j,j≠0->j≠1->j≠4->j≠5->j≠2->j≠6->V2.cell? ⟨G,j,none⟩=A7.cell? ⟨G,j,none⟩:=λj b0 b1 b4 b5 b2 b6=>(g6 j b6).trans (h.rg j b0 b1 b4 b5 b2)
 have hz:=hB.sz;have Z0:∀q,FB KK AA mk sk ma sa tk ta q->q < V2.heap.size∧q≠G∧q≠W.heap.size∧q≠M0:=λq hq=>by
  have s2:=g5.size;rcases hq with (e | e) | (e | e) | e | e | ⟨e,he,e'⟩ | ⟨e,he,e'⟩
  .have:=ZW q e;omega
  .have:=ZY q e;omega
  .have:=ZX q e;omega
  .have:=ZZ q e;omega
  .have:=h.R9.1;omega
  .have:=g2.lt;omega
  .have:=gi.YG e he
   have h5:=this.2.2.1;have h6:=this.2.2.2.1;omega
  .have:=gi.YH e he
   have h5:=this.2.2.1;have h6:=this.2.2.2.1;omega
 have Ot:V2.heap[W.heap.size]? =some (.cells #[.int .i64 0,.int .i64 0] 130):=(kk.block _ (by omega) ⟨by omega,by omega,by omega⟩).trans hB.bl;have lnn:LN V2 W.heap.size G [(0,0)] (.slice (some ⟨W.heap.size,0,none⟩) 1 1) M0:=by
  refine ⟨(VQ 9 (by decide) (by decide) (by decide) (by decide) (by decide) (by decide)).trans (hB.bg.ae 9 _ rfl),g1.gf 9,⟨rfl,.inr ⟨W.heap.size,1,_,rfl,Nat.le_refl _,Ot,Nat.le_refl _,by decide,rfl,rfl⟩⟩,(VQ 10 (by decide) (by decide) (by decide) (by decide) (by decide) (by decide)).trans (hB.bg.ae 10 _ rfl),hB.lm.kept kk ⟨by omega,by omega,by omega⟩,by simp,⟨λe=>?_,λe=>?_,by omega⟩,?_⟩
  .have:W.heap.size=G:=Option.some.inj e
   omega
  .have:W.heap.size=M0:=Option.some.inj e
   omega
  .have:=kk.size
   omega
 refine ⟨hr,ta,⟨⟨gk2,g1,tK2,g2,(g6 2 (by decide)).trans h.c2,g3,lnn,λq hq=>?_,λq hq=>(Z0 q hq).1⟩,rfl,(VQ 8 (by decide) (by decide) (by decide) (by decide) (by decide) (by decide)).trans (hB.bg.ae 8 _ rfl),g1.gf 8,World.ownsRow_nil _ _ _ _,λq e=>by cases e⟩,kk,by have:=h.R9.1;omega,by omega⟩;obtain ⟨f1,f2,f3,f4⟩:=Z0 q hq;exact ⟨f2,λe=>f3 (Option.some.inj e).symm,f4⟩
def xZ:List Nd->List (Nat×Nat)->List Value
 | d ::ds,p ::ps=>kp d.pos ::.int .i64 (p.1:Int)::.int .i64 (p.2:Int)::xZ ds ps
 | _,_=>[]
theorem Ex (d:Nd) (p:Nat×Nat):∀(ds:List Nd) (ps:List (Nat×Nat)),ds.length=ps.length->xZ (ds++[d]) (ps++[p])=xZ ds ps++[kp d.pos,.int .i64 (p.1:Int),.int .i64 (p.2:Int)]
 | [],[],_=>rfl
 | [],_ ::_,h=>by simp at h
 | _ ::_,[],h=>by simp at h
 | e ::ds,q ::ps,h=>by
  simp only [List.cons_append,xZ];rw [Ex d p ds ps (by simpa using h)]
theorem JB:∀(ds:List Nd) (ps:List (Nat×Nat)) (i:Nat) (d:Nd) (p:Nat×Nat),ds[i]? =some d->ps[i]? =some p->(xZ ds ps)[i * 3+1]? =some (.int .i64 (p.1:Int))∧(xZ ds ps)[i * 3+1+1]? =some (.int .i64 (p.2:Int))
 | [],_,_,_,_,h,_=>by simp at h
 | _ ::_,[],_,_,_,_,h=>by simp at h
 | e ::ds,q ::ps,0,d,p,h1,h2=>by
  have e2:q=p:=by simpa using h2
  subst e2;exact ⟨rfl,rfl⟩
 | e ::ds,q ::ps,i+1,d,p,h1,h2=>by
  obtain ⟨g1,g2⟩:=JB ds ps i d p (by simpa using h1) (by simpa using h2);rw [show (i+1)* 3+1=i * 3+1+1+1+1 from by omega];exact ⟨by simpa [xZ] using g1,by simpa [xZ] using g2⟩
def Nu (KK AA:List (Nat×Nat)) (x:Nat×Nat):Prop:=x=(0,0)∨(∃k b n:Nat,KK[k]? =some (b,n)∧x=(K.off KK k,n))∨∃k b n:Nat,AA[k]? =some (b,n)∧x=(K.off KK KK.length+A.off AA k,n)
theorem KX.Q9 {O:Nat->Nat} {KK AA:List (Nat×Nat)} {a:Option Addr} {n:Nat} {x:Nat×Nat} (h:KX O KK a n x):Nu KK AA x:=by
 rcases h with ⟨-,h⟩ | ⟨k,b,-,h1,-,h2⟩
 .exact .inl h
 .exact .inr (.inl ⟨k,b,n,h1,h2⟩)
theorem AX.Q9 {O:Nat->Nat} {KK AA:List (Nat×Nat)} {a:Option Addr} {n:Nat} {x:Nat×Nat} (h:AX O KK AA a n x):Nu KK AA x:=by
 rcases h with ⟨-,h⟩ | ⟨k,b,-,h1,-,h2⟩
 .exact .inl h
 .exact .inr (.inr ⟨k,b,n,h1,h2⟩)
structure NP (O:Nat->Nat) (W w:World) (lo G M0:Nat) (KK AA:List (Nat×Nat)) (mk sk ma sa:Value) (tk ta:Nat) (ND:List Nd) (k:Nat) (LS:List (Nat×Nat)) (lv nv:Value) (PQ:List (Nat×Nat)):Prop where
 pn:PN O w W.heap.size lo G KK AA mk sk ma sa tk ta LS lv M0 nv k (xZ (ND.take k) PQ)
 le:k<=ND.length
 pq:PQ.length=k
 rel:∀(i:Nat) d p,ND[i]? =some d->PQ[i]? =some p->∃x y,LS[p.1]? =some x∧KX O KK (kA d.x) (kN d.x) x∧LS[p.2]? =some y∧AX O KK AA (aA d.x) (aN d.x) y
 so:∀x∈LS,Nu KK AA x
 ll:LS.length<=2 * k+3
 be:Below W.heap.size W w
 hg:W.heap.size<=G∧W.heap.size<=M0∧W.heap.size<=tk∧W.heap.size<=ta
theorem pU {α:Type} {L M:List α} {i:Nat} {x:α} (h:L[i]? =some x):(L++M)[i]? =some x:=by
 rw [List.getElem?_append_left (List.getElem?_eq_some_iff.1 h).1];exact h
theorem NP.step {O:Nat->Nat} {W w:World} {lo G M0:Nat} {KK AA:List (Nat×Nat)} {KR AR:List Fo} {mk sk ma sa:Value} {tk ta:Nat} {ND:List Nd} {k:Nat} {LS:List (Nat×Nat)} {lv nv:Value} {PQ:List (Nat×Nat)} (h:NP O W w lo G M0 KK AA mk sk ma sa tk ta ND k LS lv nv PQ) (hb:Bd KK AA) (hn:ND.length<=4000000) {d:Nd} (hd:ND[k]? =some d) (hx:∃kc ac,W.cell? ⟨d.b,d.o+5,none⟩=some (.slice (kA d.x) (kN d.x) kc)∧W.cell? ⟨d.b,d.o+6,none⟩=some (.slice (aA d.x) (aN d.x) ac)) (hdn:Done O KK KR AA AR d.x) (x8:FB KK AA mk sk ma sa tk ta d.b):
  Calls Tryz.prog 71 #[.pointer (some ⟨G,0,none⟩),.pointer (some ⟨d.b,d.o,none⟩)] w λe w'=>(∃v,e=.returned v)∧∃U7 lv' zN U8,NP O W w' lo G M0 KK AA mk sk ma sa tk ta ND (k+1) U7 lv' zN U8∧∃L2,U7=LS++L2:=by
 obtain ⟨kc,ac,x5,x6⟩:=hx;have hbl:d.b < W.heap.size:=block_lt_of_cell x5;have hkl:k < ND.length:=(List.getElem?_eq_some_iff.1 hd).1;have hll:=h.ll;have hk:kN d.x=0∨∃k b:Nat,kA d.x=some ⟨b,O b,none⟩∧KK[k]? =some (b,kN d.x)∧0 < kN d.x:=by
  by_cases h0:0 < kN d.x
  .obtain ⟨i,b,h1,h2,-⟩:=hdn.k h0
   exact .inr ⟨i,b,h1,h2,h0⟩
  .exact .inl (by omega)
 have ha:aN d.x=0∨∃k b:Nat,aA d.x=some ⟨b,O b,none⟩∧AA[k]? =some (b,aN d.x)∧0 < aN d.x:=by
  by_cases h0:0 < aN d.x
  .obtain ⟨i,b,h1,h2,-⟩:=hdn.a h0
   exact .inr ⟨i,b,h1,h2,h0⟩
  .exact .inl (by omega)
 refine (Ra h.pn hb ((h.be.cell (p:=⟨d.b,d.o+5,none⟩) hbl).trans x5) ((h.be.cell (p:=⟨d.b,d.o+6,none⟩) hbl).trans x6) x8 hk ha (by omega) (by omega)).mono ?_;rintro e w' ⟨hv,i,j,L2,lv',zN,x,y,g1,g2,g3,g4,g5,g6,g7,g8⟩;have htk:ND.take (k+1)=ND.take k++[d]:=by rw [List.take_add_one,hd];rfl
 have hpl:(ND.take k).length=PQ.length:=by rw [List.length_take,h.pq];omega
 refine ⟨hv,_,lv',zN,PQ++[(i,j)],⟨?_,by omega,by simp [h.pq],λq dq p hq hp=>?_,λz hz=>?_,by rw [List.length_append];omega,?_,h.hg⟩,L2,rfl⟩
 .rw [htk,Ex d (i,j) _ _ hpl]
  exact g1
 .rw [List.getElem?_append] at hp
  split at hp
  .obtain ⟨x',y',r1,r2,r3,r4⟩:=h.rel q dq p hq hp
   exact ⟨x',y',pU r1,r2,pU r3,r4⟩
  .rename_i hq2
   obtain ⟨t,ht⟩:∃t,t=q - PQ.length:=⟨_,rfl⟩
   rw [<- ht] at hp
   cases t with
   | zero=>
    have e1:(i,j)=p:=by simpa using hp
    have e2:q=k:=by have:=h.pq;omega
    rw [e2,hd] at hq;have e3:d=dq:=Option.some.inj hq;subst e3;subst e1;exact ⟨x,y,g2,g3,g4,g5⟩
   | succ t=>simp at hp
 .rcases List.mem_append.1 hz with e | e
  .exact h.so z e
  .rcases g7 z e with e2 | e2
   .rw [e2];exact g3.Q9
   .rw [e2];exact g5.Q9
 .refine Below.kept h.be g8 (λc hc=>?_) (Nat.le_refl _)
  have h1:=h.hg;exact ⟨by omega,by omega,λe=>by have:=(World.ownsRow.lt h.pn.z.ln.ow c e).1;omega,λe=>by have:=(World.ownsRow.lt h.pn.ow c e).1;omega⟩
theorem GI.node {O:Nat->Nat} {W A7:World} {lo G wb:Nat} {KK AA:List (Nat×Nat)} {KR AR:List Fo} {R:List Nat} {c tot:Nat} (h:GI O A7 (SB A7 lo G wb) KK AA KR AR [] [] R c tot) (hk:Below W.heap.size W A7) (hlo:lo=W.heap.size+5) {d:Nd} (hd:d∈bY O KK KR++dw O AA AR):
  (∃kc ac,W.cell? ⟨d.b,d.o+5,none⟩=some (.slice (kA d.x) (kN d.x) kc)∧W.cell? ⟨d.b,d.o+6,none⟩=some (.slice (aA d.x) (aN d.x) ac))∧Done O KK KR AA AR d.x∧((∃e∈KK,e.1=d.b)∨∃e∈AA,e.1=d.b):=by
 obtain ⟨o1,o2⟩:=h.ok d hd;have hb:d.b < W.heap.size:=by have:=o1.at_.2.2.1;omega
 have hdn:Done O KK KR AA AR d.x:=by
  rcases h.pd d hd with e | e | e
  .cases e
  .cases e
  .exact e
 refine ⟨?_,hdn,?_⟩
 .obtain ⟨k,nm,mn,la,ln,lc,lk,na,nn,nc,nk,ka,kn,kc,kk,aa,an,ac,ak,hx,-⟩:=ag o1.fit
  have hc:=o1.ae;rw [hx] at hc ⊢;exact ⟨kc,ac,(hk.cell (p:=⟨d.b,d.o+5,none⟩) hb).symm.trans (hc 5 _ rfl),(hk.cell (p:=⟨d.b,d.o+6,none⟩) hb).symm.trans (hc 6 _ rfl)⟩
 .rcases List.mem_append.1 hd with e | e
  .obtain ⟨k,hk⟩:=List.getElem?_of_mem e
   obtain ⟨i,e,r,j,h1,-,-,-,-,h5⟩:=h.eP hk;exact .inl ⟨e,List.mem_of_getElem? h1,(congrArg Prod.fst h5).symm⟩
  .obtain ⟨k,hk⟩:=List.getElem?_of_mem e
   obtain ⟨i,e,r,j,h1,-,-,-,-,h5⟩:=h.fC hk;exact .inr ⟨e,List.mem_of_getElem? h1,(congrArg Prod.fst h5).symm⟩
def GE (W W':World) (rb:Nat) (F:Fo) (G:Nat):Prop:=
 ∃(O:Nat->Nat) (A7:World) (lo wb M0:Nat) (KK AA:List (Nat×Nat)) (KR AR:List Fo) (mk sk ma sa:Value) (tk ta:Nat) (LS:List (Nat×Nat)) (lv nv:Value) (PQ:List (Nat×Nat)),
  GI O A7 (SB A7 lo G wb) KK AA KR AR [] [] [] 0 (fH F)∧NP O W W' lo G M0 KK AA mk sk ma sa tk ta (bY O KK KR++dw O AA AR) (bY O KK KR++dw O AA AR).length LS lv nv PQ∧(∃i:Nat,KK[i]? =some (rb,1)∧KR[i]? =some F)∧(∃(i:Nat) (x:Nat×Nat),LS[i]? =some x∧KX O KK (some ⟨rb,0,none⟩) 1 x)∧O rb=0∧Below W.heap.size W A7∧lo=W.heap.size+5
theorem NP.start {O:Nat->Nat} {W A7 V2 V3:World} {G wb fb M0:Nat} {KK AA:List (Nat×Nat)} {mk sk ma sa:Value} {tk ta:Nat} {ND:List Nd} {a:Option Addr} {m:Nat} {x:Nat×Nat} {i:Nat} {L2:List (Nat×Nat)} {lv':Value} (hB:WB W A7 G wb fb M0) (h:PN O V2 W.heap.size (W.heap.size+5) G KK AA mk sk ma sa tk ta [(0,0)] (.slice (some ⟨W.heap.size,0,none⟩) 1 1) M0 (.slice none 0 0) 0 []) (k:Kept (λd=>d < W.heap.size+5∧d≠G∧d≠wb) A7 V2) (Z8:W.heap.size<=tk∧W.heap.size<=ta) (q:LQ V2 V3 W.heap.size G [(0,0)] (.slice (some ⟨W.heap.size,0,none⟩) 1 1) M0 x i L2 lv') (kx:KX O KK a m x):
  NP O W V3 (W.heap.size+5) G M0 KK AA mk sk ma sa tk ta ND 0 ([(0,0)]++L2) lv' (.slice none 0 0) []∧∃(i:Nat) (x:Nat×Nat),([(0,0)]++L2)[i]? =some x∧KX O KK a m x:=by
 have e1:=hB.eG;have e2:=hB.ew;have e3:=hB.eM;refine ⟨⟨by simpa [xZ] using h.list q,Nat.zero_le _,rfl,λi d p _ hp=>by simp at hp,λz hz=>?_,?_,?_,⟨by omega,by omega,Z8⟩⟩,i,x,q.at_,kx⟩
 .rcases List.mem_append.1 hz with e | e
  .rw [List.mem_singleton] at e
   exact .inl e
  .rcases q.new with e2 | e2
   .rw [e2] at e;cases e
   .rw [e2,List.mem_singleton] at e
    rw [e];exact kx.Q9
 .have:L2.length<=1:=by rcases q.new with e | e <;> simp [e]
  simp
  omega
 .have b2:Below W.heap.size W V2:=Below.kept hB.kp k (λc hc=>⟨by omega,by omega,by omega⟩) (Nat.le_refl _)
  exact Below.kept b2 q.kept (λc hc=>⟨by omega,λe=>by have:W.heap.size=c:=Option.some.inj e;omega,by omega⟩) (Nat.le_refl _)
end Go.Proofs.YthfnobboalhihaaGreat
