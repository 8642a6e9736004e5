import Derived.Test.YthfnobboalhihaaGreatYk
import Derived.Test.YthfnobboalhihaaGreatKx
set_option maxHeartbeats 4000000
set_option maxRecDepth 100000
namespace Go.Proofs.YthfnobboalhihaaGreat
open Go.RowKit Go.Joins
theorem zz99 {P:Prop} (h:P:=by
 refine List.Sublist.append_left (List.Sublist.append_left (List.Sublist.append_left (List.Sublist.append_left (List.Sublist.append_left (List.Sublist.append_left (List.Sublist.append_left (List.Sublist.append_left g3 _) _) _) _) _) _) _) _):P:=h
theorem zz113 {P:Prop} (h:P:=by
 rcases List.mem_cons.1 hd with rfl | hd
 .simp only [gJ]
  exact ⟨ho.1,ho.2.1,ho.2.2.1,ho.2.2.2.1,ho.2.2.2.2.1,ho.2.2.2.2.2.1,ho.2.2.2.2.2.2.1,ho.2.2.2.2.2.2.2.1,trivial⟩
 .exact g4 ho.2.2.2.2.2.2.2.2 d hd):P:=h
theorem zz129 {P:Prop} (h:P:=by
 exact ⟨i,b,h1,by rw [List.getElem?_append_left (List.getElem?_eq_some_iff.1 h2).1];exact h2,by rw [List.getElem?_append_left (List.getElem?_eq_some_iff.1 h3).1];exact h3⟩):P:=h
theorem zz136 {P:Prop} (h:P:=by
 have h1:=yx Qd (λd hd=>(h.ok d (h.qs d hd)).1.one);have h2:=h.ct;have h3:=h.sz;omega):P:=h
theorem zz150 {P:Prop} (h:P:=by
 simp only [Nd.pos,Nat.zero_mul,Nat.add_zero,List.cons.injEq,true_and];apply List.map_congr_left;intro j _;simp only [Function.comp];congr 1;omega):P:=h
theorem zz185 {P:Prop} (h:P:=by
 intro d hd;rcases List.mem_cons.1 hd with rfl | hd
 .simp only [Fo.wt];omega
 .have:=g d hd
  simp only [Fo.wt];omega):P:=h
theorem zz197 {P:Prop} (h:P:=by
 rw [<- hj] at he hr
 cases j with
 | zero=>
  cases he
  cases hr
  exact ⟨hf,hn⟩
 | succ j=>simp at he):P:=h
theorem zz207 {P:Prop} (h:P:=by
 exact List.Sublist.append_left (List.Sublist.append_right (List.Sublist.append_left p3 _) _) _):P:=h
theorem zz228 {P:Prop} (h:P:=by
 simp only [List.length_append,List.map_append,List.sum_append,p2,pl] at hc ⊢;omega):P:=h
theorem zz230 {P:Prop} (h:P:=by
 simp only [List.length_append,pl,List.length_cons,List.length_nil] at hc ⊢;omega):P:=h
theorem lI (O:Nat->Nat) (b:Nat):∀(n o:Nat) (F:Fo),Fit E F (rep (E 3) n)->(aS b o F).map Nd.pos=(List.range n).map (λj=>(b,o+j * 7))∧((aS b o F).map (λd=>fH d.x)).sum=fH F∧List.Sublist ((aS b o F).flatMap (λd=>d.x.ah)) F.ah∧(gJ O F->∀d∈aS b o F,gJ O d.x)
 | 0,o,F,h=>by
  rw [ai h];exact ⟨rfl,by simp [aS,kI],by simp [aS],λ_ d hd=>by simp [aS] at hd⟩
 | n+1,o,F,h=>by
  obtain ⟨x,q,rfl,hx,hq,hl⟩:=Fit.split (fs:=E 3) (gs:=rep (E 3) n) h;obtain ⟨g1,g2,g3,g4⟩:=lI O b n (o+7) q hq;obtain ⟨k,nm,mn,la,ln,lc,lk,na,nn,nc,nk,ka,kn,kc,kk,aa,an,ac,ak,rfl,-⟩:=ag hx;simp only [Fo.app,aS];refine ⟨?_,?_,?_,λho d hd=>?_⟩
  .rw [List.map_cons,g1,List.range_succ_eq_map,List.map_cons,List.map_map]
   exact zz150
  .simp only [List.map_cons,List.sum_cons,g2,qp,kI,Nat.add_zero]
  .simp only [List.flatMap_cons,Fo.ah,List.append_nil]
   simp only [List.append_assoc];exact zz99
  .simp only [gJ] at ho
   exact zz113
theorem lJ (O:Nat->Nat) (b:Nat):∀(n o:Nat) (F:Fo),Fit E F (rep (E 2) n)->(aJ b o F).map Nd.pos=(List.range n).map (λj=>(b,o+j * 9+2))∧((aJ b o F).map (λd=>fH d.x)).sum=mh F∧List.Sublist ((aJ b o F).flatMap (λd=>d.x.ah)) F.ah∧(gJ O F->∀d∈aJ b o F,gJ O d.x)
 | 0,o,F,h=>by
  rw [ai h];exact ⟨rfl,by simp [aJ,rT],by simp [aJ],λ_ d hd=>by simp [aJ] at hd⟩
 | n+1,o,F,h=>by
  obtain ⟨x,q,rfl,hx,hq,hl⟩:=Fit.split (fs:=E 2) (gs:=rep (E 2) n) h;obtain ⟨g1,g2,g3,g4⟩:=lJ O b n (o+9) q hq;obtain ⟨au,ca,cn,cc,ck,y,rfl,-,-,hy⟩:=aK hx;obtain ⟨k,nm,mn,la,ln,lc,lk,na,nn,nc,nk,ka,kn,kc,kk,aa,an,ac,ak,rfl,-⟩:=ag hy;simp only [Fo.app,aJ];refine ⟨?_,?_,?_,λho d hd=>?_⟩
  .rw [List.map_cons,g1,List.range_succ_eq_map,List.map_cons,List.map_map]
   exact zz150
  .simp only [List.map_cons,List.sum_cons,g2,Jy,qp,kI,Nat.add_zero]
  .simp only [List.flatMap_cons,Fo.ah,List.append_nil]
   simp only [List.append_assoc];refine List.Sublist.trans ?_ (List.sublist_append_right _ _);refine List.Sublist.trans ?_ (List.sublist_append_right _ _);exact zz99
  .simp only [gJ] at ho
   replace ho:=ho.2.2;exact zz113
def bY (O:Nat->Nat) (KK:List (Nat×Nat)) (KR:List Fo):List Nd:=(KK.zip KR).flatMap (λp=>aS p.1.1 (O p.1.1) p.2)
def dw (O:Nat->Nat) (AA:List (Nat×Nat)) (AR:List Fo):List Nd:=(AA.zip AR).flatMap (λp=>aJ p.1.1 (O p.1.1) p.2)
theorem zg (O:Nat->Nat) {KK:List (Nat×Nat)} {KR:List Fo} (h:KR.length=KK.length) (e:Nat×Nat) (F:Fo):bY O (KK++[e]) (KR++[F])=bY O KK KR++aS e.1 (O e.1) F:=by
 unfold bY;rw [List.zip_append h.symm,List.flatMap_append]
 simp
theorem zh (O:Nat->Nat) {AA:List (Nat×Nat)} {AR:List Fo} (h:AR.length=AA.length) (e:Nat×Nat) (F:Fo):dw O (AA++[e]) (AR++[F])=dw O AA AR++aJ e.1 (O e.1) F:=by
 unfold dw;rw [List.zip_append h.symm,List.flatMap_append]
 simp
structure Done (O:Nat->Nat) (KK:List (Nat×Nat)) (KR:List Fo) (AA:List (Nat×Nat)) (AR:List Fo) (x:Fo):Prop where
 k:0 < kN x->∃i b:Nat,kA x=some ⟨b,O b,none⟩∧KK[i]? =some (b,kN x)∧KR[i]? =some (kF x)
 a:0 < aN x->∃i b:Nat,aA x=some ⟨b,O b,none⟩∧AA[i]? =some (b,aN x)∧AR[i]? =some (aF x)
theorem Done.mono {O:Nat->Nat} {KK AA:List (Nat×Nat)} {KR AR:List Fo} {x:Fo} (h:Done O KK KR AA AR x) (K2 A2:List (Nat×Nat)) (R2 S2:List Fo):Done O (KK++K2) (KR++R2) (AA++A2) (AR++S2) x:=by
 refine ⟨λhp=>?_,λhp=>?_⟩
 .obtain ⟨i,b,h1,h2,h3⟩:=h.k hp
  exact zz129
 .obtain ⟨i,b,h1,h2,h3⟩:=h.a hp
  exact zz129
theorem Jz (b:Nat):∀(n o:Nat) (F:Fo),Fit E F (rep (E 3) n)->∀d∈aS b o F,d.x.wt<=F.wt
 | 0,o,F,h=>by rw [ai h];intro d hd;simp [aS] at hd
 | n+1,o,F,h=>by
  obtain ⟨x,q,rfl,hx,hq,hl⟩:=Fit.split (fs:=E 3) (gs:=rep (E 3) n) h;have g:=Jz b n (o+7) q hq;obtain ⟨k,nm,mn,la,ln,lc,lk,na,nn,nc,nk,ka,kn,kc,kk,aa,an,ac,ak,rfl,-⟩:=ag hx;simp only [Fo.app,aS];exact zz185
theorem JA (b:Nat):∀(n o:Nat) (F:Fo),Fit E F (rep (E 2) n)->∀d∈aJ b o F,d.x.wt<=F.wt
 | 0,o,F,h=>by rw [ai h];intro d hd;simp [aJ] at hd
 | n+1,o,F,h=>by
  obtain ⟨x,q,rfl,hx,hq,hl⟩:=Fit.split (fs:=E 2) (gs:=rep (E 2) n) h;have g:=JA b n (o+9) q hq;obtain ⟨au,ca,cn,cc,ck,y,rfl,-,-,hy⟩:=aK hx;obtain ⟨k,nm,mn,la,ln,lc,lk,na,nn,nc,nk,ka,kn,kc,kk,aa,an,ac,ak,rfl,-⟩:=ag hy;simp only [Fo.app,aJ];exact zz185
theorem wI {KK:List (Nat×Nat)} {KR:List Fo} (h:KR.length=KK.length) {P:Nat×Nat->Fo->Prop} (h1:∀(i:Nat) e r,KK[i]? =some e->KR[i]? =some r->P e r) {e0:Nat×Nat} {F:Fo} (h0:P e0 F) (i:Nat) (e:Nat×Nat) (r:Fo) (he:(KK++[e0])[i]? =some e) (hr:(KR++[F])[i]? =some r):P e r:=by
 rw [List.getElem?_append] at he hr;rw [h] at hr
 split at he
 .rename_i hi
  rw [if_pos hi] at hr;exact h1 i e r he hr
 .rename_i hi
  rw [if_neg hi] at hr;obtain ⟨j,hj⟩:∃j,j=i - KK.length:=⟨_,rfl⟩
  rw [<- hj] at he hr
  cases j with
  | zero=>
   cases he
   cases hr
   exact h0
  | succ j=>simp at he
structure TW (O:Nat->Nat) (W:World) (KK AA:List (Nat×Nat)) (KR AR:List Fo):Prop where
 d:∀d∈bY O KK KR++dw O AA AR,d.x.wt<=1048576
 k:∀(i:Nat) e r,KK[i]? =some e->KR[i]? =some r->e.2+r.wt<=1048577
 a:∀(i:Nat) e r,AA[i]? =some e->AR[i]? =some r->e.2+r.wt<=1048577
 c:∀(i:Nat) e r,AA[i]? =some e->AR[i]? =some r->bD W r.vals e.1 (O e.1)
structure GI (O:Nat->Nat) (W:World) (S:Nat->Prop) (KK AA:List (Nat×Nat)) (KR AR:List Fo) (Qd X:List Nd) (R:List Nat) (c tot:Nat):Prop where
 lk:KR.length=KK.length
 la:AR.length=AA.length
 fk:∀(i:Nat) e r,KK[i]? =some e->KR[i]? =some r->Fit E r (rep (E 3) e.2)∧0 < e.2
 fa:∀(i:Nat) e r,AA[i]? =some e->AR[i]? =some r->Fit E r (rep (E 2) e.2)∧0 < e.2
 ok:∀d∈bY O KK KR++dw O AA AR,d.Ok W S∧gJ O d.x
 qs:∀d∈Qd,d∈bY O KK KR++dw O AA AR
 pd:∀d∈bY O KK KR++dw O AA AR,d∈Qd∨d∈X∨Done O KK KR AA AR d.x
 nd:((KK.map Prod.fst++AA.map Prod.fst)++(Qd.flatMap (λd=>d.x.ah)++R)).Nodup
 ct:(bY O KK KR++dw O AA AR).length+(Qd.map (λd=>fH d.x)).sum+c=tot+Qd.length
 sz:Qd.length<=(bY O KK KR++dw O AA AR).length∧KK.length+AA.length<=(bY O KK KR++dw O AA AR).length
 tb:(∀r∈KR,fH r<=tot)∧∀r∈AR,mh r<=tot
 tw:TW O W KK AA KR AR
theorem yx:∀(Q:List Nd),(∀d∈Q,1<=fH d.x)->Q.length<=(Q.map (λd=>fH d.x)).sum
 | [],_=>Nat.le_refl _
 | d ::Q,h=>by
  have h1:=h d List.mem_cons_self;have h2:=yx Q (λe he=>h e (List.mem_cons_of_mem _ he));simp only [List.length_cons,List.map_cons,List.sum_cons];omega
theorem Nd.Ok.one {W:World} {S:Nat->Prop} {d:Nd} (h:d.Ok W S):1<=fH d.x:=by
 obtain ⟨k,nm,mn,la,ln,lc,lk,na,nn,nc,nk,ka,kn,kc,kk,aa,an,ac,ak,e,-⟩:=ag h.fit;rw [e,qp];omega
section
variable {O:Nat->Nat} {W:World} {S:Nat->Prop} {KK AA:List (Nat×Nat)} {KR AR:List Fo} {Qd X:List Nd} {R R':List Nat} {c tot:Nat}
theorem GI.less (h:GI O W S KK AA KR AR Qd X R c tot) (hs:List.Sublist R' R):GI O W S KK AA KR AR Qd X R' c tot:=
 ⟨h.lk,h.la,h.fk,h.fa,h.ok,h.qs,h.pd,h.nd.sublist (List.Sublist.append_left (List.Sublist.append_left hs _) _),h.ct,h.sz,h.tb,h.tw⟩
theorem GI.pop {Q0:List Nd} {d:Nd} (h:GI O W S KK AA KR AR (Q0++[d]) [] [] 0 tot):GI O W S KK AA KR AR Q0 [d] d.x.ah (fH d.x - 1) tot∧1<=fH d.x:=by
 have hd:=h.ok d (h.qs d (by simp));have h1:1<=fH d.x:=by
  obtain ⟨k,nm,mn,la,ln,lc,lk,na,nn,nc,nk,ka,kn,kc,kk,aa,an,ac,ak,e,-⟩:=ag hd.1.fit;rw [e,qp];omega
 refine ⟨⟨h.lk,h.la,h.fk,h.fa,h.ok,λx hx=>h.qs x (List.mem_append.2 (.inl hx)),λx hx=>?_,?_,?_,⟨?_,h.sz.2⟩,h.tb,h.tw⟩,h1⟩
 .rcases h.pd x hx with e | e | e
  .rcases List.mem_append.1 e with e | e
   .exact .inl e
   .exact .inr (.inl e)
  .cases e
  .exact .inr (.inr e)
 .have:=h.nd
  rw [List.append_nil,List.flatMap_append] at this;simpa using this
 .have:=h.ct
  simp only [List.map_append,List.sum_append,List.length_append,List.map_cons,List.map_nil,List.sum_cons,List.sum_nil,List.length_cons,List.length_nil] at this ⊢;omega
 .have:=h.sz.1
  simp only [List.length_append,List.length_cons,List.length_nil] at this ⊢;omega
theorem GI.XQ {b n:Nat} {F:Fo} (h:GI O W S KK AA KR AR Qd X ((b ::F.ah)++R) (fH F+c) tot) (hf:Fit E F (rep (E 3) n)) (hn:0 < n) (ho:∀d∈aS b (O b) F,d.Ok W S∧gJ O d.x) (hw:n+F.wt<=1048577):
  GI O W S (KK++[(b,n)]) AA (KR++[F]) AR (Qd++aS b (O b) F) X R c tot:=by
 obtain ⟨p1,p2,p3,-⟩:=lI O b n (O b) F hf;have pl:(aS b (O b) F).length=n:=by have:=congrArg List.length p1;simpa using this
 have hmem:∀d,d∈bY O (KK++[(b,n)]) (KR++[F])++dw O AA AR↔d∈bY O KK KR++dw O AA AR∨d∈aS b (O b) F:=λd=>by
  rw [zg O h.lk];simp only [List.mem_append];constructor
  .rintro ((h | h) | h)
   .exact .inl (.inl h)
   .exact .inr h
   .exact .inl (.inr h)
  .rintro ((h | h) | h)
   .exact .inl (.inl h)
   .exact .inr h
   .exact .inl (.inr h)
 refine ⟨by simp [h.lk],h.la,λi e r he hr=>?_,h.fa,λd hd=>?_,λd hd=>?_,λd hd=>?_,?_,?_,?_,⟨λr hr=>?_,h.tb.2⟩,⟨λd hd=>?_,wI h.lk h.tw.k hw,h.tw.a,h.tw.c⟩⟩
 .rw [List.getElem?_append] at he hr
  rw [h.lk] at hr
  split at he
  .rename_i hi
   rw [if_pos hi] at hr;exact h.fk i e r he hr
  .rename_i hi
   rw [if_neg hi] at hr;obtain ⟨j,hj⟩:∃j,j=i - KK.length:=⟨_,rfl⟩
   exact zz197
 .rcases (hmem d).1 hd with e | e
  .exact h.ok d e
  .exact ho d e
 .rcases List.mem_append.1 hd with e | e
  .exact (hmem d).2 (.inl (h.qs d e))
  .exact (hmem d).2 (.inr e)
 .rcases (hmem d).1 hd with e | e
  .rcases h.pd d e with e | e | e
   .exact .inl (List.mem_append.2 (.inl e))
   .exact .inr (.inl e)
   .have:=e.mono [(b,n)] [] [F] []
    rw [List.append_nil,List.append_nil] at this;exact .inr (.inr this)
  .exact .inl (List.mem_append.2 (.inr e))
 .refine (h.nd.perm (l':=(KK.map Prod.fst++[b]++AA.map Prod.fst)++(Qd.flatMap (λd=>d.x.ah)++F.ah++R)) ?_).sublist ?_
  .simp only [List.append_assoc,List.cons_append,List.nil_append]
   refine List.Perm.append_left _ ?_
   have:=List.perm_middle (l₁:=AA.map Prod.fst++Qd.flatMap (λd=>d.x.ah)) (l₂:=F.ah++R) (a:=b)
   simpa only [List.append_assoc] using this
  .simp only [List.map_append,List.map_cons,List.map_nil,List.flatMap_append]
   exact zz207
 .have hc:=h.ct
  rw [zg O h.lk];exact zz228
 .have hc:=h.sz
  rw [zg O h.lk];exact zz230
 .rcases List.mem_append.1 hr with e | e
  .exact h.tb.1 r e
  .rw [List.mem_singleton] at e
   rw [e];exact zz136
 .rcases (hmem d).1 hd with e | e
  .exact h.tw.d d e
  .have:=Jz b n (O b) F hf d e
   omega
theorem GI.XR {b n:Nat} {F:Fo} (h:GI O W S KK AA KR AR Qd X ((b ::F.ah)++R) (mh F+c) tot) (hf:Fit E F (rep (E 2) n)) (hn:0 < n) (ho:∀d∈aJ b (O b) F,d.Ok W S∧gJ O d.x) (hw:n+F.wt<=1048577) (hcl:bD W F.vals b (O b)):
  GI O W S KK (AA++[(b,n)]) KR (AR++[F]) (Qd++aJ b (O b) F) X R c tot:=by
 obtain ⟨p1,p2,p3,-⟩:=lJ O b n (O b) F hf;have pl:(aJ b (O b) F).length=n:=by have:=congrArg List.length p1;simpa using this
 have hmem:∀d,d∈bY O KK KR++dw O (AA++[(b,n)]) (AR++[F])↔d∈bY O KK KR++dw O AA AR∨d∈aJ b (O b) F:=λd=>by
  rw [zh O h.la];simp only [List.mem_append];constructor
  .rintro (h | h | h)
   .exact .inl (.inl h)
   .exact .inl (.inr h)
   .exact .inr h
  .rintro ((h | h) | h)
   .exact .inl h
   .exact .inr (.inl h)
   .exact .inr (.inr h)
 refine ⟨h.lk,by simp [h.la],h.fk,λi e r he hr=>?_,λd hd=>?_,λd hd=>?_,λd hd=>?_,?_,?_,?_,⟨h.tb.1,λr hr=>?_⟩,⟨λd hd=>?_,h.tw.k,wI h.la h.tw.a hw,wI (P:=λe r=>bD W r.vals e.1 (O e.1)) h.la h.tw.c hcl⟩⟩
 .rw [List.getElem?_append] at he hr
  rw [h.la] at hr
  split at he
  .rename_i hi
   rw [if_pos hi] at hr;exact h.fa i e r he hr
  .rename_i hi
   rw [if_neg hi] at hr;obtain ⟨j,hj⟩:∃j,j=i - AA.length:=⟨_,rfl⟩
   exact zz197
 .rcases (hmem d).1 hd with e | e
  .exact h.ok d e
  .exact ho d e
 .rcases List.mem_append.1 hd with e | e
  .exact (hmem d).2 (.inl (h.qs d e))
  .exact (hmem d).2 (.inr e)
 .rcases (hmem d).1 hd with e | e
  .rcases h.pd d e with e | e | e
   .exact .inl (List.mem_append.2 (.inl e))
   .exact .inr (.inl e)
   .have:=e.mono [] [(b,n)] [] [F]
    rw [List.append_nil,List.append_nil] at this;exact .inr (.inr this)
  .exact .inl (List.mem_append.2 (.inr e))
 .refine (h.nd.perm (l':=(KK.map Prod.fst++(AA.map Prod.fst++[b]))++(Qd.flatMap (λd=>d.x.ah)++F.ah++R)) ?_).sublist ?_
  .simp only [List.append_assoc,List.cons_append,List.nil_append]
   refine List.Perm.append_left _ (List.Perm.append_left _ ?_);exact List.perm_middle
  .simp only [List.map_append,List.map_cons,List.map_nil,List.flatMap_append]
   exact zz207
 .have hc:=h.ct
  rw [zh O h.la];exact zz228
 .have hc:=h.sz
  rw [zh O h.la];exact zz230
 .rcases List.mem_append.1 hr with e | e
  .exact h.tb.2 r e
  .rw [List.mem_singleton] at e
   rw [e];exact zz136
 .rcases (hmem d).1 hd with e | e
  .exact h.tw.d d e
  .have:=JA b n (O b) F hf d e
   omega
theorem GI.done {d:Nd} (h:GI O W S KK AA KR AR Qd [d] R c tot) (hd:Done O KK KR AA AR d.x):GI O W S KK AA KR AR Qd [] R c tot:=by
 refine ⟨h.lk,h.la,h.fk,h.fa,h.ok,h.qs,λx hx=>?_,h.nd,h.ct,h.sz,h.tb,h.tw⟩;rcases h.pd x hx with e | e | e
 .exact .inl e
 .rw [List.mem_singleton] at e
  rw [e];exact .inr (.inr hd)
 .exact .inr (.inr e)
theorem GI.bound (h:GI O W S KK AA KR AR Qd X R c tot):(bY O KK KR++dw O AA AR).length<=tot∧Qd.length<=tot∧KK.length+AA.length<=tot:=by
 exact zz136
end
theorem sO {W:World} {S:Nat->Prop}:∀{F:Fo},F.av W S->∀c∈F.ah,∃o v,W.cell? ⟨c,o,none⟩=some v
 | .nil,_,c,hc=>by simp [Fo.ah] at hc
 | .v _ r,h,c,hc=>sO (F:=r) h c hc
 | .s a n cap ks r,h,c,hc=>by
  simp only [Fo.ah,List.mem_append] at hc;rcases hc with (hc | hc) | hc
  .by_cases hl:0 < ks.len
   .obtain ⟨b,o,rfl,-,rU,-⟩:=h.1.2.2 hl
    rw [aT hl,List.mem_singleton] at hc;subst hc;obtain ⟨v,hv⟩:∃v,ks.vals[0]? =some v:=⟨_,List.getElem?_eq_getElem (by rw [Fo.aB];exact hl)⟩
    exact ⟨o+0,v,rU 0 v hv⟩
   .rw [Fo.iD hl] at hc
    simp [Fo.len,jv] at hc
  .by_cases hl:0 < ks.len
   .obtain ⟨b,o,-,-,-,hk⟩:=h.1.2.2 hl
    exact sO hk c hc
   .rw [Fo.iD hl] at hc
    simp [Fo.ah] at hc
  .exact sO h.2 c hc
def GX (O:Nat->Nat) (RG:Nat->Option Value) (W0:World) (S:Nat->Prop) (lo G wb fb:Nat) (V:World) (KK AA:List (Nat×Nat)) (KR AR:List Fo) (Qd X:List Nd) (R:List Nat) (c tot:Nat):Prop:=
 (∃mk sk ma sa wv,St O O RG lo G wb fb V KK AA (Qd.map Nd.pos) mk sk ma sa wv)∧GI O W0 S KK AA KR AR Qd X R c tot∧Kept (λd=>d < lo∧d≠G∧d≠wb) W0 V
def SB (W0:World) (lo G wb:Nat) (c:Nat):Prop:=aO W0 c∧c < W0.heap.size∧(c+5 < lo∧c+9≠lo)∧c≠G∧c≠wb
theorem Ng {c lo:Nat} (h:c+5 < lo∧c+9≠lo):c < lo:=by omega
theorem Fz {O:Nat->Nat} {b n:Nat} {F:Fo} (h:Fit E F (rep (E 3) n)):(aS b (O b) F).map Nd.pos=iQ O b n:=(lI O b n (O b) F h).1
theorem FC {O:Nat->Nat} {b n:Nat} {F:Fo} (h:Fit E F (rep (E 2) n)):(aJ b (O b) F).map Nd.pos=iR O b n:=(lJ O b n (O b) F h).1
theorem BZ {O:Nat->Nat} {RG:Nat->Option Value} {W0:World} {lo G wb fb:Nat} {V:World} {KK AA:List (Nat×Nat)} {KR AR:List Fo} {Qd X:List Nd} {R:List Nat} {c tot:Nat} {a:Option Addr} {n cap:Nat} {F:Fo}
  (h:GX O RG W0 (SB W0 lo G wb) lo G wb fb V KK AA KR AR Qd X ((blk a F.len++F.ah)++R) (fH F+c) tot) (hf:Fit E F (rep (E 3) n)) (hs:Fo.Sub W0 (SB W0 lo G wb) a n cap F) (ho:gJ O (.s a n cap F .nil)) (ht:tot<=4000000) (hw:n+F.wt<=1048577):
  Calls Tryz.prog 66 #[.pointer (some ⟨G,0,none⟩),.slice a n cap,pQ wb] V λe V'=>e=.returned (.tuple #[])∧∃K2 R2 Q2,GX O RG W0 (SB W0 lo G wb) lo G wb fb V' (KK++K2) AA (KR++R2) AR (Qd++Q2) X R c tot∧(0 < n->∃i b:Nat,a=some ⟨b,O b,none⟩∧(KK++K2)[i]? =some (b,n)∧(KR++R2)[i]? =some F)∧(Q2.map (λd=>fH d.x)).sum=fH F:=by
 obtain ⟨⟨mk,sk,ma,sa,wv,st⟩,gi,hk⟩:=h;have hlen:F.len=n * 7:=by have:=Fit.len hf;rw [dz] at this;simpa [show (E 3).length=7 from rfl] using this
 by_cases h0:n=0
 .subst h0
  have e:F=.nil:=ai hf;subst e;refine (Ni st a cap).mono ?_;rintro e V' ⟨rfl,mk',VV,wv',s1,s2⟩;refine ⟨rfl,[],[],[],⟨⟨mk',VV,ma,sa,wv',by simpa using s1⟩,?_,hk.trans s2⟩,λh=>absurd h (by omega),by simp [kI]⟩
  have:=gi.less (R':=R) (by simp)
  rw [kI,Nat.zero_add] at this;simpa using this
 .have hn:0 < n:=by omega
  obtain ⟨b,o,rfl,hb,hc,hsb⟩:=hs.2.2 (by omega);have eo:O b=o:=ho.1 (by omega) b o rfl;subst eo;rw [aT (by omega)] at gi;obtain ⟨p1,p2,p3,p4⟩:=lI O b n (O b) F hf;obtain ⟨q1,q2,q3⟩:=uZ hb n (O b) F hf hc hsb;have IP:=gi.XQ (b:=b) (n:=n) (F:=F) hf hn (λd hd=>⟨q3 d hd,p4 ho.2.1 d hd⟩) hw;have bd:=IP.bound;have Bp:∀e∈KK,e.1≠b:=λe he eb=>by
   have:=(List.nodup_append.1 gi.nd).2.2 e.1 (List.mem_append.2 (.inl (List.mem_map.2 ⟨e,he,rfl⟩))) b (by simp)
   exact this eb
  have hbl:b < W0.heap.size:=hb.2.1;have lb:aO V b:=hb.1.kept hk hbl ⟨(Ng hb.2.2.1),hb.2.2.2.1,hb.2.2.2.2⟩;simp only [List.length_append,q1,List.length_cons,List.length_nil] at bd;refine (Sg (n:=n) (cap:=cap) rfl st Bp ⟨lb,(Ng hb.2.2.1),hb.2.2.2.1,hb.2.2.2.2⟩ (by omega) (by omega) (by rw [List.length_map];omega) hs.1).mono ?_;rintro e V' ⟨rfl,mk',VV,wv',s1,s2⟩;refine ⟨rfl,[(b,n)],[F],aS b (O b) F,⟨⟨mk',VV,ma,sa,wv',?_⟩,IP,hk.trans s2⟩,λ_=>⟨KK.length,b,rfl,by simp,by rw [<- gi.lk];simp⟩,p2⟩;rw [List.map_append,Fz hf];have e1:upto KK b n=KK++[(b,n)]:=if_neg h0;rw [e1] at s1;exact s1
theorem Lm {O:Nat->Nat} {RG:Nat->Option Value} {W0:World} {lo G wb fb:Nat} {V:World} {KK AA:List (Nat×Nat)} {KR AR:List Fo} {Qd X:List Nd} {R:List Nat} {c tot:Nat} {a:Option Addr} {n cap:Nat} {F:Fo}
  (h:GX O RG W0 (SB W0 lo G wb) lo G wb fb V KK AA KR AR Qd X ((blk a F.len++F.ah)++R) (mh F+c) tot) (hf:Fit E F (rep (E 2) n)) (hs:Fo.Sub W0 (SB W0 lo G wb) a n cap F) (ho:gJ O (.s a n cap F .nil)) (ht:tot<=4000000) (hw:n+F.wt<=1048577):
  Calls Tryz.prog 67 #[.pointer (some ⟨G,4,none⟩),.slice a n cap,Ib fb] V λe V'=>e=.returned (.tuple #[])∧∃K2 R2 Q2,GX O RG W0 (SB W0 lo G wb) lo G wb fb V' KK (AA++K2) KR (AR++R2) (Qd++Q2) X R c tot∧(0 < n->∃i b:Nat,a=some ⟨b,O b,none⟩∧(AA++K2)[i]? =some (b,n)∧(AR++R2)[i]? =some F)∧(Q2.map (λd=>fH d.x)).sum=mh F:=by
 obtain ⟨⟨mk,sk,ma,sa,wv,st⟩,gi,hk⟩:=h;have hlen:F.len=n * 9:=by have:=Fit.len hf;rw [dz] at this;simpa [show (E 2).length=9 from rfl] using this
 by_cases h0:n=0
 .subst h0
  have e:F=.nil:=ai hf;subst e;refine (OV st a cap).mono ?_;rintro e V' ⟨rfl,VW,sa',wv',s1,s2⟩;refine ⟨rfl,[],[],[],⟨⟨mk,sk,VW,sa',wv',by simpa using s1⟩,?_,hk.trans s2⟩,λh=>absurd h (by omega),by simp [rT]⟩
  have:=gi.less (R':=R) (by simp)
  rw [rT,Nat.zero_add] at this;simpa using this
 .have hn:0 < n:=by omega
  obtain ⟨b,o,rfl,hb,hc,hsb⟩:=hs.2.2 (by omega);have eo:O b=o:=ho.1 (by omega) b o rfl;subst eo;rw [aT (by omega)] at gi;obtain ⟨p1,p2,p3,p4⟩:=lJ O b n (O b) F hf;obtain ⟨q1,q2,q3⟩:=ve hb n (O b) F hf hc hsb;have IP:=gi.XR (b:=b) (n:=n) (F:=F) hf hn (λd hd=>⟨q3 d hd,p4 ho.2.1 d hd⟩) hw hc;have bd:=IP.bound;have Bp:∀e∈AA,e.1≠b:=λe he eb=>by
   have:=(List.nodup_append.1 gi.nd).2.2 e.1 (List.mem_append.2 (.inr (List.mem_map.2 ⟨e,he,rfl⟩))) b (by simp)
   exact this eb
  have hbl:b < W0.heap.size:=hb.2.1;have lb:aO V b:=hb.1.kept hk hbl ⟨(Ng hb.2.2.1),hb.2.2.2.1,hb.2.2.2.2⟩;simp only [List.length_append,q1,List.length_cons,List.length_nil] at bd;refine (Rb (n:=n) (cap:=cap) rfl st Bp ⟨lb,(Ng hb.2.2.1),hb.2.2.2.1,hb.2.2.2.2⟩ (by omega) (by omega) (by rw [List.length_map];omega) hs.1).mono ?_;rintro e V' ⟨rfl,VW,sa',wv',s1,s2⟩;refine ⟨rfl,[(b,n)],[F],aJ b (O b) F,⟨⟨mk,sk,VW,sa',wv',?_⟩,IP,hk.trans s2⟩,λ_=>⟨AA.length,b,rfl,by simp,by rw [<- gi.la];simp⟩,p2⟩;rw [List.map_append,FC hf];have e1:upto AA b n=AA++[(b,n)]:=if_neg h0;rw [e1] at s1;exact s1
theorem zz160 {P:Prop} (h:P:=by
 simp [run_underlying Tryz.underlying132,MapKept.run_getObj_map h1,sM,hf,MapKept.run_setObj_map _ h1,Result.andThen,ChangeMaps.setBlock]):P:=h
open Go.RowKit Go.Joins Go.MapKept Go.ChangeMaps
def lk (x:Nat×Nat):Value:=.agg #[.int .i64 (x.1:Int),.int .i64 (x.2:Int)]
theorem Sr {w:World} (x y:Nat×Nat):(Op.equalIn 10000 130 (lk x) (lk y)).run Tryz.prog w=.ok (decide (x=y)) w:=by
 have hp:Tryz.prog.stoodInHeld 130=false:=by kernel_rfl
 have:∀dd,(Op.equalIn (dd+1+1) 130 (lk x) (lk y)).run Tryz.prog w=.ok (decide (x=y)) w:=λdd=>by
  unfold lk;rw [run_equalIn_agg (hp:=hp) (ht:=by simp [go_sem])];obtain ⟨a,b⟩:=x;obtain ⟨c,d⟩:=y
  by_cases h1:a=c
  .by_cases h2:b=d
   .subst h1;subst h2
    simp [go_sem,Op.equalIn]
   .have h3:¬(b:Int)=(d:Int):=by omega
    subst h1;simp [go_sem,Op.equalIn,h2];exact h3
  .have h3:¬(a:Int)=(c:Int):=by omega
   simp [go_sem,Op.equalIn,h1];exact λh=>absurd h h3
 exact this 9998
def pW:List (Nat×Nat)->Nat->List ((Nat×Nat)×Nat)
 | [],_=>[]
 | x ::r,n=>(x,n)::pW r (n+1)
theorem Cf (x:Nat×Nat):∀(L:List (Nat×Nat)) (n:Nat),pW (L++[x]) n=pW L n++[(x,n+L.length)]
 | [],n=>rfl
 | y ::r,n=>by
  simp only [List.cons_append,pW,List.length_cons];rw [Cf x r (n+1),show n+1+r.length=n+(r.length+1) from by omega]
def LM (w:World) (M:Nat) (LS:List (Nat×Nat)):Prop:=
 ∃es clock,w.heap[M]? =some (.map es clock)∧es.toList.map (λe=>(e.key,e.val))=(pW LS 0).map (λp=>(lk p.1,Value.int .i64 (p.2:Int)))
theorem LM.lt {w:World} {M:Nat} {LS:List (Nat×Nat)} (h:LM w M LS):M < w.heap.size:=by
 obtain ⟨es,c,h1,-⟩:=h;exact (Array.getElem?_eq_some_iff.1 h1).1
theorem LM.kept {w w':World} {M:Nat} {LS:List (Nat×Nat)} {S:Nat->Prop} (h:LM w M LS) (k:Kept S w w') (hS:S M):LM w' M LS:=by
 exact zz221
theorem mF {w:World} (x:Nat×Nat):∀(es:List MapEntry) (L:List (Nat×Nat)) (i n:Nat),es.map (λe=>(e.key,e.val))=(pW L n).map (λp=>(lk p.1,Value.int .i64 (p.2:Int)))->
  (¬x∈L->(Instr.findAsking 130 (lk x) es i).run Tryz.prog w=.ok none w)∧(∀j:Nat,L.Nodup->L[j]? =some x->(Instr.findAsking 130 (lk x) es i).run Tryz.prog w=.ok (some (i+j,.int .i64 ((n+j:Nat):Int))) w)
 | [],L,i,n,h=>by
  have e:L=[]:=by
   cases L with
   | nil=>rfl
   | cons _ _=>simp [pW] at h
  subst e;exact ⟨λ_=>by simp [Instr.findAsking],λj _ hj=>by simp at hj⟩
 | e ::es,L,i,n,h=>by
  cases L with
  | nil=>simp [pW] at h
  | cons y L=>
   simp only [pW,List.map_cons,List.cons.injEq,Prod.mk.injEq] at h;obtain ⟨⟨h1,h2⟩,h3⟩:=h;have hc:=Sr (w:=w) x y;obtain ⟨ih1,ih2⟩:=mF (w:=w) x es L (i+1) (n+1) h3;refine ⟨λhm=>?_,λj hd hj=>?_⟩
   .have hne:decide (x=y)=false:=by simp;exact λe=>hm (by rw [e];exact List.mem_cons_self)
    rw [hne] at hc
    have:=ih1 (λhx=>hm (List.mem_cons_of_mem _ hx))
    unfold Instr.findAsking;simp [Op.equal,Op.maxDepth,h1,hc,this]
   .cases j with
    | zero=>
     have e1:y=x:=by simpa using hj
     have hd2:decide (x=y)=true:=by simp [e1]
     rw [hd2] at hc;unfold Instr.findAsking;simp [Op.equal,Op.maxDepth,h1,hc,h2]
    | succ j=>
     have hj2:L[j]? =some x:=by simpa using hj
     have hne:decide (x=y)=false:=by
      simp
      intro e;exact (List.nodup_cons.1 hd).1 (by rw [<- e];exact List.mem_of_getElem? hj2)
     rw [hne] at hc
     have:=ih2 j (List.nodup_cons.1 hd).2 hj2
     rw [show i+1+j=i+(j+1) from by omega,show n+1+j=n+(j+1) from by omega] at this;unfold Instr.findAsking;simp [Op.equal,Op.maxDepth,h1,hc,this]
theorem Su (x y:Nat×Nat) (d:TypeDesc):Instr.sameNow d (lk x) (lk y)=none:=by cases d <;> rfl
theorem qA {w:World} (x:Nat×Nat) (es:List MapEntry) (L:List (Nat×Nat)) (n:Nat) (h:es.map (λe=>(e.key,e.val))=(pW L n).map (λp=>(lk p.1,Value.int .i64 (p.2:Int)))):
  (Instr.findKey 130 (lk x) es).run Tryz.prog w=(Instr.findAsking 130 (lk x) es 0).run Tryz.prog w:=by
 unfold Instr.findKey
 cases es with
 | nil=>simp [go_sem,Instr.findNow,Instr.findAsking]
 | cons e es=>
  cases L with
  | nil=>simp [pW] at h
  | cons p L=>
   simp only [pW,List.map_cons,List.cons.injEq,Prod.mk.injEq] at h;simp [go_sem,Instr.findNow,h.1.1,Su]
theorem sM {w:World} (x:Nat×Nat) (em:Bool):(Instr.checkKey em 10000 130 (lk x)).run Tryz.prog w=.ok () w:=by
 have:∀n,(Instr.checkKey em (n+1+1) 130 (lk x)).run Tryz.prog w=.ok () w:=λn=>by simp [go_sem,Instr.checkKey,lk]
 exact this 9998
theorem LM.hit {w:World} {M:Nat} {LS:List (Nat×Nat)} (h:LM w M LS) (hd:LS.Nodup) (x:Nat×Nat) {i:Nat} (hi:LS[i]? =some x):(Instr.lookup 132 (.map (some M)) (lk x) true).run Tryz.prog w=.ok (.tuple #[.int .i64 (i:Int),.bool true]) w:=by
 obtain ⟨es,c,h1,h2⟩:=h;have hf:=qA (w:=w) x es.toList LS 0 h2;have hg:=(mF (w:=w) x es.toList LS 0 0 h2).2 i hd hi;rw [Nat.zero_add] at hg;rw [hg] at hf;unfold Instr.lookup;simp [run_underlying Tryz.underlying132,MapKept.run_getObj_map h1,sM,hf]
theorem LM.miss {w:World} {M:Nat} {LS:List (Nat×Nat)} (h:LM w M LS) (x:Nat×Nat) (hi:¬x∈LS):(Instr.lookup 132 (.map (some M)) (lk x) true).run Tryz.prog w=.ok (.tuple #[.int .i64 0,.bool false]) w:=by
 obtain ⟨es,c,h1,h2⟩:=h;have hf:=qA (w:=w) x es.toList LS 0 h2;rw [(mF (w:=w) x es.toList LS 0 0 h2).1 hi] at hf;have hz:(zeroValue 3).run Tryz.prog w=.ok (.int .i64 0) w:=by kernel_rfl
 unfold Instr.lookup;simp [run_underlying Tryz.underlying132,MapKept.run_getObj_map h1,sM,hf,hz]
theorem LM.put {w:World} {M:Nat} {LS:List (Nat×Nat)} (h:LM w M LS) (x:Nat×Nat) (hi:¬x∈LS):∃w',(Instr.mapUpdate 132 (.map (some M)) (lk x) (.int .i64 (LS.length:Int))).run Tryz.prog w=.ok () w'∧LM w' M (LS++[x])∧w.grownBy w' (some M):=by
 obtain ⟨es,c,h1,h2⟩:=h;have hf:=qA (w:=w) x es.toList LS 0 h2;rw [(mF (w:=w) x es.toList LS 0 0 h2).1 hi] at hf;refine ⟨ChangeMaps.setBlock w M (.map (es.push {key:=lk x,val:=.int .i64 (LS.length:Int),born:=c}) (c+1)),?_,?_,?_⟩
 .unfold Instr.mapUpdate
  exact zz160
 .refine ⟨_,_,heap_setBlock_same h1 _,?_⟩
  rw [Cf];simp [h2]
 .exact ⟨rfl,rfl,rfl,by simp [ChangeMaps.setBlock],λi _ hi=>heap_setBlock_other h1 _ (λe=>hi (by rw [e]))⟩
theorem zz213 {P:Prop} (h:P:=by
 have hv:=h.kept k trivial trivial (λ_ _=>trivial);exact ⟨hv.c10,hv.mp.hit hv.nd x hi⟩):P:=h
def yj (LS:List (Nat×Nat)):List Value:=LS.flatMap (λx=>[.int .i64 (x.1:Int),.int .i64 (x.2:Int)])
theorem Pf (LS:List (Nat×Nat)) (x:Nat×Nat):yj (LS++[x])=yj LS++[.int .i64 (x.1:Int),.int .i64 (x.2:Int)]:=by simp [yj]
structure LN (w:World) (B1 G:Nat) (LS:List (Nat×Nat)) (lv:Value) (Mn:Nat):Prop where
 c9:w.cell? ⟨G,9,none⟩=some lv
 f9:w.frozen? ⟨G,9,none⟩=false
 ow:w.ownsRow B1 130 2 lv LS.length (yj LS)
 c10:w.cell? ⟨G,10,none⟩=some (.map (some Mn))
 mp:LM w Mn LS
 nd:LS.Nodup
 ne:lv.ownBlock≠some G∧lv.ownBlock≠some Mn∧Mn≠G
 hv:B1<=w.heap.size
theorem LN.kept {w w':World} {B1 G:Nat} {LS:List (Nat×Nat)} {lv:Value} {Mn:Nat} {S:Nat->Prop} (h:LN w B1 G LS lv Mn) (k:Kept S w w') (hG:S G) (hM:S Mn) (hl:∀c,lv.ownBlock=some c->S c):LN w' B1 G LS lv Mn:=by
 have g1:=block_lt_of_cell h.c9;exact ⟨(k.cell (p:=⟨G,9,none⟩) g1 hG).trans h.c9,(k.frozen (p:=⟨G,9,none⟩) g1 hG).trans h.f9,aj h.ow k hl,(k.cell (p:=⟨G,10,none⟩) g1 hG).trans h.c10,h.mp.kept k hM,h.nd,h.ne,Nat.le_trans h.hv k.size⟩
structure LQ (w w':World) (B1 G:Nat) (LS:List (Nat×Nat)) (lv:Value) (Mn:Nat) (x:Nat×Nat) (i:Nat) (L2:List (Nat×Nat)) (lv':Value):Prop where
 ln:LN w' B1 G (LS++L2) lv' Mn
 at_:(LS++L2)[i]? =some x
 new:L2=[]∨L2=[x]
 kept:Kept (λc=>c≠G∧lv.ownBlock≠some c∧c≠Mn) w w'
 cell:∀j,j≠9->w'.cell? ⟨G,j,none⟩=w.cell? ⟨G,j,none⟩
 Mx:∀j,w'.frozen? ⟨G,j,none⟩=w.frozen? ⟨G,j,none⟩
 blk:lv'.ownBlock=lv.ownBlock∨∃c,lv'.ownBlock=some c∧w.heap.size<=c
theorem Tryz.info130:(Tryz.prog.info? 130).map (λi=>(i.zero,i.size,i.bytes))=some (some (.agg #[.int .i64 0,.int .i64 0]),2,16):=by kernel_rfl
theorem Lu {w:World} {B1 G:Nat} {LS:List (Nat×Nat)} {lv:Value} {Mn:Nat} (h:LN w B1 G LS lv Mn) (x:Nat×Nat) (i:Nat) (hi:LS[i]? =some x):
  Calls Tryz.prog 75 #[.pointer (some ⟨G,0,none⟩),lk x] w λe w'=>e=.returned (.int .i64 (i:Int))∧LQ w w' B1 G LS lv Mn x i [] lv:=by
 have HX:Hid (∀V,Kept (λ_=>True) w V->V.cell? ⟨G,10,none⟩=some (.map (some Mn))∧(Instr.lookup 132 (.map (some Mn)) (.agg #[.int .i64 (x.1:Int),.int .i64 (x.2:Int)]) true).run Tryz.prog V=.ok (.tuple #[.int .i64 (i:Int),.bool true]) V):=λV k=>by
  exact zz213
 have FIN:Hid (∀V,Kept (λ_=>True) w V->LQ w V B1 G LS lv Mn x i [] lv):=λV k=>by
  have g1:=block_lt_of_cell h.c9;exact ⟨by rw [List.append_nil];exact h.kept k trivial trivial (λ_ _=>trivial),by rw [List.append_nil];exact hi,.inl rfl,k.mono (λ_ _ _=>trivial),λj _=>k.cell (p:=⟨G,j,none⟩) g1 trivial,λj=>k.frozen (p:=⟨G,j,none⟩) g1 trivial,.inl rfl⟩
 obtain ⟨V1,hV1⟩:∃V,w.alloc (.cells #[.int .i64 (x.1:Int),.int .i64 (x.2:Int)] 130)=V:=⟨_,rfl⟩
 have k1:Kept (λ_=>True) w V1:=by rw [<- hV1];exact Kept.alloc _ _ _
 have bx:Bx V1 w.heap.size [.int .i64 (x.1:Int),.int .i64 (x.2:Int)]:=by rw [<- hV1];exact Bx.new _ _ _
 obtain ⟨u1,u2⟩:=HX.out V1 k1;obtain ⟨u3,u4⟩:=HX.out V1.drew (k1.trans (Kept.drew _ _));have x0:=bx.ae 0 _ rfl;have x1:=bx.ae 1 _ rfl;have y0:=(bx.kept (Kept.drew (λ_=>True) _) trivial).ae 0 _ rfl;have y1:=(bx.kept (Kept.drew (λ_=>True) _) trivial).ae 1 _ rfl;have gD:=hide hV1;have fU:=hide k1;obtain ⟨s,hs⟩:∃s,w.heap.size=s:=⟨_,rfl⟩
 rw [hs] at x0 x1 y0 y1;unfold lk;clear h hi k1 bx hV1 HX;go_enter Tryz.func75,Tryz.ntmps75
 go_upto_region 1 with fail
 rw [gD.out]
 go_region
 all_goals
  go_wp2_with fail;go_ret;exact ⟨rfl,FIN.out _ (fU.out.trans (Kept.drew _ _))⟩
theorem kU {W:World} {B n sz:Nat} {e:TypeId} {v:Value} {xs:List Value} (h:W.ownsRow B e sz v n xs):∃a c,v=.slice a n c:=by
 rcases h.2 with ⟨e1,e2⟩ | ⟨g,cap,cur,e1,-⟩
 .exact ⟨none,0,by rw [e1,e2]⟩
 .exact ⟨_,cap,e1⟩
theorem Lv {w:World} {B1 G:Nat} {LS:List (Nat×Nat)} {lv:Value} {Mn:Nat} (h:LN w B1 G LS lv Mn) (x:Nat×Nat) (hi:¬x∈LS) (hl:LS.length<=10000000):
  Calls Tryz.prog 75 #[.pointer (some ⟨G,0,none⟩),lk x] w λe w'=>e=.returned (.int .i64 (LS.length:Int))∧∃lv',LQ w w' B1 G LS lv Mn x LS.length [x] lv':=by
 obtain ⟨fa,nz,rfl⟩:=kU h.ow;obtain ⟨n,hn⟩:∃n,LS.length=n:=⟨_,rfl⟩
 obtain ⟨lv,hlv⟩:∃lv,Value.slice fa LS.length nz=lv:=⟨_,rfl⟩
 have hG:G < w.heap.size:=block_lt_of_cell h.c9;obtain ⟨V1,hV1⟩:∃V,w.alloc (.cells #[.int .i64 (x.1:Int),.int .i64 (x.2:Int)] 130)=V:=⟨_,rfl⟩
 have k1:Kept (λ_=>True) w V1:=by rw [<- hV1];exact Kept.alloc _ _ _
 have z1:V1.heap.size=w.heap.size+1:=by rw [<- hV1];simp
 have bx:Bx V1 w.heap.size [.int .i64 (x.1:Int),.int .i64 (x.2:Int)]:=by rw [<- hV1];exact Bx.new _ _ _
 have kd:∀V,Kept (λ_=>True) V V.drew:=λV=>Kept.drew _ _
 have l1:=h.kept k1 trivial trivial (λ_ _=>trivial);have l2:=l1.kept (kd V1) trivial trivial (λ_ _=>trivial);have l3:=l2.kept (kd V1.drew) trivial trivial (λ_ _=>trivial);have b2:=bx.kept (kd V1) trivial;have b3:=b2.kept (kd V1.drew) trivial;obtain ⟨W2,hup,m2,gr⟩:=l3.mp.put x hi;rw [hn] at hup;have u1:(Instr.lookup 132 (.map (some Mn)) (.agg #[.int .i64 (x.1:Int),.int .i64 (x.2:Int)]) true).run Tryz.prog V1=.ok (.tuple #[.int .i64 0,.bool false]) V1:=l1.mp.miss x hi;have u2:(Instr.lookup 132 (.map (some Mn)) (.agg #[.int .i64 (x.1:Int),.int .i64 (x.2:Int)]) true).run Tryz.prog V1.drew=.ok (.tuple #[.int .i64 0,.bool false]) V1.drew:=l2.mp.miss x hi;have aac:(Instr.mapUpdate 132 (.map (some Mn)) (.agg #[.int .i64 (x.1:Int),.int .i64 (x.2:Int)]) (.int .i64 (n:Int))).run Tryz.prog V1.drew.drew=.ok () W2:=hup;obtain ⟨n1,n2,n3⟩:=h.ne
 have k2:Kept (λc=>c≠Mn) V1.drew.drew W2:=Kept.grown gr (λc hc hx=>hx (Option.some.inj hc).symm);have Wo:=h.mp.lt;have bl:∀c,(Value.slice fa LS.length nz).ownBlock=some c->c < w.heap.size:=λc e=>(World.ownsRow.lt h.ow c e).2
 have p9:W2.cell? ⟨G,9,none⟩=some (.slice fa n nz):=by rw [<- hn];exact (k2.cell (p:=⟨G,9,none⟩) (by show G < V1.heap.size;omega) (λe=>n3 e.symm)).trans l3.c9
 have q9:W2.frozen? ⟨G,9,none⟩=false:=(k2.frozen (p:=⟨G,9,none⟩) (by show G < V1.heap.size;omega) (λe=>n3 e.symm)).trans l3.f9;have b4:Bx W2 w.heap.size [.int .i64 (x.1:Int),.int .i64 (x.2:Int)]:=b3.kept k2 (by omega);have o4:W2.ownsRow B1 130 2 (.slice fa n nz) n (yj LS):=by
  rw [<- hn];exact aj l3.ow k2 (λc e e2=>n2 (by rw [e,e2]))
 have BH:Kept (λc=>c≠Mn) w W2:=((k1.trans (kd V1)).trans (kd V1.drew)).mono (λ_ _ _=>trivial) |>.trans k2
 have z2:=BH.size;have ob:(Value.slice fa n nz).ownBlock=(Value.slice fa LS.length nz).ownBlock:=by rw [hn]
 have HOW:Hid (∀V,Kept (λ_=>True) W2 V->V.ownsRow B1 130 2 (.slice fa n nz) n (yj LS)):=λV k=>aj o4 k (λ_ _=>trivial)
 have HP:Hid (∀V,Kept (λc=>(Value.slice fa n nz).ownBlock≠some c) W2 V->V.cell? ⟨G,9,none⟩=some (.slice fa n nz)∧V.frozen? ⟨G,9,none⟩=false∧V.cell? ⟨w.heap.size,0,none⟩=some (.int .i64 (x.1:Int))∧V.cell? ⟨w.heap.size,1,none⟩=some (.int .i64 (x.2:Int))):=λV k=>by
  have hg2:=block_lt_of_cell p9;have b5:=b4.kept k (λe=>by rw [ob] at e;have:=bl _ e;omega);exact ⟨(k.cell (p:=⟨G,9,none⟩) hg2 (by rw [ob];exact n1)).trans p9,(k.frozen (p:=⟨G,9,none⟩) hg2 (by rw [ob];exact n1)).trans q9,b5.ae 0 _ rfl,b5.ae 1 _ rfl⟩
 have FIN:Hid (∀g7 cp w7,w7.ownsRow B1 130 2 (.slice (some ⟨g7,0,none⟩) (n+1) cp) (n+1) (yj LS++[.int .i64 (x.1:Int),.int .i64 (x.2:Int)])->(W2.alloc (.cells #[.int .i64 (x.1:Int),.int .i64 (x.2:Int)] 130)).drew.grownBy w7 (Value.slice fa n nz).ownBlock->((Value.slice fa n nz).ownBlock=some g7∨g7=(W2.alloc (.cells #[.int .i64 (x.1:Int),.int .i64 (x.2:Int)] 130)).drew.heap.size)->LQ w (w7.setCell ⟨G,9,none⟩ (.slice (some ⟨g7,0,none⟩) (n+1) cp)) B1 G LS (.slice fa LS.length nz) Mn x LS.length [x] (.slice (some ⟨g7,0,none⟩) (n+1) cp)):=λg7 cp w7 hO fB hat=>by
  have ka:Kept (λc=>(Value.slice fa n nz).ownBlock≠some c) W2 w7:=(((Kept.alloc (λ_=>True) W2 _).trans (Kept.drew _ _)).mono (λ_ _ _=>trivial)).trans (Kept.grown fB (λc hc hx=>hx hc));have zz:(W2.alloc (.cells #[.int .i64 (x.1:Int),.int .i64 (x.2:Int)] 130)).drew.heap.size=W2.heap.size+1:=by simp
  have hat':(Value.slice fa n nz).ownBlock=some g7∨W2.heap.size<=g7:=hat.imp id (λe=>by omega);have gG:g7≠G:=by
   rcases hat' with e | e
   .exact λe2=>n1 (by rw [<- ob,e,e2])
   .omega
  have gM:g7≠Mn:=by
   rcases hat' with e | e
   .exact λe2=>n2 (by rw [<- ob,e,e2])
   .omega
  have ks:Kept (λc=>c≠G) w7 (w7.setCell ⟨G,9,none⟩ (.slice (some ⟨g7,0,none⟩) (n+1) cp)):=Kept.setCell _ _ _ _ (λhx=>hx rfl);obtain ⟨r1,r2,-,-⟩:=HP.out w7 ka;have kGw:∀j,W2.cell? ⟨G,j,none⟩=w.cell? ⟨G,j,none⟩:=λj=>BH.cell (p:=⟨G,j,none⟩) hG (λe=>n3 e.symm)
  have kG7:∀j,w7.cell? ⟨G,j,none⟩=W2.cell? ⟨G,j,none⟩:=λj=>ka.cell (p:=⟨G,j,none⟩) (by show G < _;omega) (by rw [ob];exact n1)
  have fGw:∀j,w7.frozen? ⟨G,j,none⟩=w.frozen? ⟨G,j,none⟩:=λj=>(ka.frozen (p:=⟨G,j,none⟩) (by show G < _;omega) (by rw [ob];exact n1)).trans (BH.frozen (p:=⟨G,j,none⟩) hG (λe=>n3 e.symm))
  have c7:∀j,j≠9->(w7.setCell ⟨G,9,none⟩ (.slice (some ⟨g7,0,none⟩) (n+1) cp)).cell? ⟨G,j,none⟩=w.cell? ⟨G,j,none⟩:=λj hj=>by
   rw [World.cell?_setCell_other _ _ _ _ (λe=>hj (congrArg Addr.off e).symm)];exact (kG7 j).trans (kGw j)
  have hle:(LS++[x]).length=n+1:=by simp [hn]
  have z7:=ka.size;refine ⟨⟨World.cell?_setCell_same _ _ _ r1,by rw [World.frozen?_setCell];exact r2,?_,(c7 10 (by decide)).trans h.c10,(m2.kept ka (by rw [ob];exact n2)).kept ks n3,?_,⟨λe=>gG (Option.some.inj e),λe=>gM (Option.some.inj e),n3⟩,?_⟩,by simp,.inr rfl,?_,c7,λj=>by rw [World.frozen?_setCell];exact fGw j,?_⟩
  .rw [hle,Pf]
   exact aj hO ks (λc e e2=>gG (by rw [<- e2];exact Option.some.inj e))
  .exact List.nodup_append.2 ⟨h.nd,by simp,λy hy z hz=>by rw [List.mem_singleton] at hz;rw [hz];exact λe=>hi (by rw [<- e];exact hy)⟩
  .have:=h.hv
   have:=ks.size
   omega
  .exact ((BH.mono (λc _ hc=>hc.2.2)).trans (ka.mono (λc _ hc=>by rw [ob];exact hc.2.1))).trans (ks.mono (λc _ hc=>hc.1))
  .rcases hat' with e | e
   .exact .inl (by rw [<- ob];exact e.symm)
   .exact .inr ⟨g7,rfl,by omega⟩
 have x0:=bx.ae 0 _ rfl;have x1:=bx.ae 1 _ rfl;have y0:=b2.ae 0 _ rfl;have y1:=b2.ae 1 _ rfl;have ZV:=l1.c10;have e10:=l2.c10;have e9:V1.drew.cell? ⟨G,9,none⟩=some (.slice fa n nz):=by rw [<- hn];exact l2.c9
 have f10:=l3.c10;have w0:=b3.ae 0 _ rfl;have w1:=b3.ae 1 _ rfl;have gD:=hide hV1;have HN:Hid (n+1<=maxLen∧(n+1)* 16<=140737488355328):=by unfold Hid maxLen;omega
 have HB:Hid (B1<=W2.heap.size):=Nat.le_trans h.hv z2;have ku:=hide hn;rw [hn];obtain ⟨s,hs⟩:∃s,w.heap.size=s:=⟨_,rfl⟩
 rw [hs] at x0 x1 y0 y1 w0 w1 HP;unfold lk;clear h hi k1 bx hV1 l1 l2 l3 b2 b3 kd hup m2 gr k2 b4 o4 BH z1 z2 hG n1 n2 n3 Wo bl ob p9 q9 hl hn hlv lv;go_enter Tryz.func75,Tryz.ntmps75
 go_upto_region 1 with fail
 rw [gD.out]
 go_region
 all_goals
  clear u1 u2 x0 x1 ZV
  go_upto_region 4 with fail
  go_region
  all_goals
   clear aac f10 w0 w1 e10 e9 y0 y1;obtain ⟨a1,a2,a3,a4⟩:=HP.out W2.drew ((Kept.drew (λ_=>True) W2).mono (λ_ _ _=>trivial));obtain ⟨a5,a6,a7,a8⟩:=HP.out (W2.alloc (.cells #[.int .i64 (x.1:Int),.int .i64 (x.2:Int)] 130)) ((Kept.alloc (λ_=>True) W2 _).mono (λ_ _ _=>trivial))
   go_upto_region 5 with fail
   go_region_law (first
    | (refine mG (by rfl) _ _ 131 130 (by rfl) Tryz.info130 Tryz.underlying131 rfl (by decide) B1 _ (.slice fa n nz) n (yj LS) [.int .i64 (x.1:Int),.int .i64 (x.2:Int)] _ 1 (by rfl) (HOW.out _ ((Kept.alloc (λ_=>True) W2 _).trans (Kept.drew _ _))) (by rfl) (Dz _ _) (Nat.le_trans HB.out (by simp)) rfl (by simp [Value.oneCell']) HN.out.1 HN.out.2 ?_;intro g7 cp w7 gX fB jm;have uT:=hide (FIN.out _ _ _ gX fB jm);obtain ⟨t1,t2,-,-⟩:=HP.out w7 ((((Kept.alloc (λ_=>True) W2 _).trans (Kept.drew _ _)).mono (λ_ _ _=>trivial)).trans (Kept.grown fB (λc hc hx=>hx hc)));clear gX fB jm)
    | fail)
   all_goals
    go_wp2_with fail;go_ret;have hfin:=uT.out;rw [ku.out] at hfin;exact ⟨rfl,_,hfin⟩
theorem Jp {w:World} {B1 G:Nat} {LS:List (Nat×Nat)} {lv:Value} {Mn:Nat} (h:LN w B1 G LS lv Mn) (x:Nat×Nat) (hl:LS.length<=10000000):
  Calls Tryz.prog 75 #[.pointer (some ⟨G,0,none⟩),lk x] w λe w'=>∃(i:Nat) (L2:List (Nat×Nat)) (lv':Value),e=.returned (.int .i64 (i:Int))∧LQ w w' B1 G LS lv Mn x i L2 lv':=by
 by_cases hi:x∈LS
 .obtain ⟨i,hi⟩:=List.getElem?_of_mem hi
  refine (Lu h x i hi).mono ?_;rintro e w' ⟨rfl,q⟩;exact ⟨i,[],lv,rfl,q⟩
 .refine (Lv h x hi hl).mono ?_
  rintro e w' ⟨rfl,lv',q⟩;exact ⟨_,[x],lv',rfl,q⟩
end Go.Proofs.YthfnobboalhihaaGreat
