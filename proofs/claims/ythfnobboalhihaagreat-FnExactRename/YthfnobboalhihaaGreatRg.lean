import Derived.Test.YthfnobboalhihaaGreatRc
set_option maxHeartbeats 4000000
set_option maxRecDepth 100000
namespace Go.Proofs.YthfnobboalhihaaGreat
open Go.RowKit Go.Joins
theorem OE {V:World} {f t nm:ByteArray} {b o:Nat} (c0:V.cell? ⟨b,o,none⟩=some (.int .i64 1)) (c1:V.cell? ⟨b,o+1,none⟩=some (.string nm)) (f1:V.frozen? ⟨b,o+1,none⟩=false):
  Calls Tryz.prog 25 #[.agg #[.string f,.string t],.pointer (some ⟨b,o,none⟩)] V λe V'=>e=.returned (.tuple #[])∧∃V1,Kept (λ_=>True) V V1∧V'=if nm.toList==f.toList then V1.setCell ⟨b,o+1,none⟩ (.string t) else V1:=by
 have hbl:b < V.heap.size:=block_lt_of_cell c0;obtain ⟨V1,hV1⟩:∃V1,V.alloc (.cells #[.string f,.string t] 53)=V1:=⟨_,rfl⟩
 have k1:Kept (λ_=>True) V V1:=by rw [<- hV1];exact Kept.alloc _ _ _
 have bx:Bx V1 V.heap.size [.string f,.string t]:=by rw [<- hV1];exact Bx.new _ _ _
 have d0:=bx.ae 0 _ rfl;have d1:=bx.ae 1 _ rfl;have e0:=(k1.cell (p:=⟨b,o,none⟩) hbl trivial).trans c0;have e1:=(k1.cell (p:=⟨b,o+1,none⟩) hbl trivial).trans c1;have e2:=(k1.frozen (p:=⟨b,o+1,none⟩) hbl trivial).trans f1;have gD:=hide hV1;have HK:=hide k1;clear c0 c1 f1 hV1 k1 bx hbl;go_enter Tryz.func25,Tryz.ntmps25
 go_upto_region 1 with fail
 rw [gD.out]
 cases heq:(nm.toList==f.toList) with
 | true=>
  go_upto_region 3 with fail
  go_quiet (fail);go_wp2_with fail;exact bodyPost_end (results_none rfl _ _ _) rfl ⟨rfl,_,HK.out.trans (oN _ _ _),rfl⟩
 | false=>
  go_upto_region 3 with fail
  go_quiet (fail);go_wp2_with fail
  all_goals exact bodyPost_end (results_none rfl _ _ _) rfl ⟨rfl,HK.out.trans (oN _ _ _)⟩
structure aZ (I:List Nat) (b o n:Nat) (V V':World):Prop where
 kp:Kept (λc=>c≠b∧c∉I) V V'
 at_:∀j,(j < o∨o+n<=j)->V'.cell? ⟨b,j,none⟩=V.cell? ⟨b,j,none⟩
 fz:∀c j,c < V.heap.size->V'.frozen? ⟨c,j,none⟩=V.frozen? ⟨c,j,none⟩
theorem aZ.refl (I:List Nat) (b o n:Nat) (V:World):aZ I b o n V V:=⟨Kept.refl _ _,λ_ _=>rfl,λ_ _ _=>rfl⟩
theorem aZ.of {I:List Nat} {b o n:Nat} {V V':World} (hb:b < V.heap.size) (k:Kept (λ_=>True) V V'):aZ I b o n V V':=
 ⟨k.mono (λ_ _ _=>trivial),λj _=>k.cell (p:=⟨b,j,none⟩) hb trivial,λc j hc=>k.frozen (p:=⟨c,j,none⟩) hc trivial⟩
theorem aZ.trans {I:List Nat} {b o n:Nat} {U V W:World} (h:aZ I b o n U V) (k:aZ I b o n V W):aZ I b o n U W:=
 ⟨h.kp.trans k.kp,λj hj=>(k.at_ j hj).trans (h.at_ j hj),λc j hc=>(k.fz c j (Nat.lt_of_lt_of_le hc h.kp.size)).trans (h.fz c j hc)⟩
theorem aZ.wide {I J:List Nat} {b o n o' n':Nat} {V V':World} (h:aZ I b o n V V') (hI:∀c∈I,c∈J) (h1:o'<=o) (h2:o+n<=o'+n'):aZ J b o' n' V V':=
 ⟨h.kp.mono (λ_ _ hc=>⟨hc.1,λhx=>hc.2 (hI _ hx)⟩),λj hj=>h.at_ j (by omega),h.fz⟩
theorem aZ.below {I J:List Nat} {b o n c o' n':Nat} {V V':World} (h:aZ I c o' n' V V') (hc:c∈J) (hI:∀d∈I,d∈J) (hb:b∉J) (hv:b < V.heap.size):aZ J b o n V V':=
 ⟨h.kp.mono (λd _ hd=>⟨λe=>hd.2 (by rw [e];exact hc),λhx=>hd.2 (hI _ hx)⟩),λj _=>h.kp.cell (p:=⟨b,j,none⟩) hv ⟨λe=>hb (by have e':b=c:=e;rw [e'];exact hc),λhx=>hb (hI _ hx)⟩,h.fz⟩
structure Mine (V:World) (x:Fo) (b o:Nat):Prop where
 ae:bD V x.vals b o
 subs:x.av V (λc=>c∈x.ah)
 nd:(b ::x.ah).Nodup
 lt:b < V.heap.size∧∀c∈x.ah,c < V.heap.size
 lv:∀c,c=b∨c∈x.ah->∀j,V.frozen? ⟨c,j,none⟩=false
theorem Mine.keep {V V':World} {x:Fo} {b o:Nat} (h:Mine V x b o) {S:Nat->Prop} (k:Kept S V V') (hS:∀c,c=b∨c∈x.ah->S c):Mine V' x b o:=by
 have hl:∀c,c=b∨c∈x.ah->c < V.heap.size:=λc hc=>by
  rcases hc with e | e
  .rw [e];exact h.lt.1
  .exact h.lt.2 c e
 exact ⟨h.ae.kept k h.lt.1 (hS b (.inl rfl)),h.subs.kept k (λc hc=>⟨hS c (.inr hc),hl c (.inr hc)⟩),h.nd,⟨Nat.lt_of_lt_of_le h.lt.1 k.size,λc hc=>Nat.lt_of_lt_of_le (h.lt.2 c hc) k.size⟩,
  λc hc j=>(k.frozen (p:=⟨c,j,none⟩) (hl c hc) (hS c hc)).trans (h.lv c hc j)⟩
theorem Mine.aside {V V':World} {x:Fo} {b o:Nat} (h:Mine V x b o) {I:List Nat} {o' n':Nat} (k:aZ I b o' n' V V') (hI:∀c∈x.ah,c∉I) (ho:o+x.vals.length<=o'∨o'+n'<=o):Mine V' x b o:=by
 have hnb:∀c∈x.ah,c≠b:=λc hc e=>(List.nodup_cons.1 h.nd).1 (e▸hc)
 refine ⟨λi v hv=>?_,h.subs.kept k.kp (λc hc=>⟨⟨hnb c hc,hI c hc⟩,h.lt.2 c hc⟩),h.nd,⟨Nat.lt_of_lt_of_le h.lt.1 k.kp.size,λc hc=>Nat.lt_of_lt_of_le (h.lt.2 c hc) k.kp.size⟩,λc hc j=>?_⟩
 .have hi:i < x.vals.length:=(List.getElem?_eq_some_iff.1 hv).1
  rw [k.at_ (o+i) (by omega)];exact h.ae i v hv
 .have hl:c < V.heap.size:=by
   rcases hc with e | e
   .rw [e];exact h.lt.1
   .exact h.lt.2 c e
  exact (k.fz c j hl).trans (h.lv c hc j)
section
variable {V V':World} {x q:Fo} {b o:Nat}
theorem Mine.split (h:Mine V (x.app q) b o):Mine V x b o∧Mine V q b (o+x.len)∧∀c∈x.ah,c∉q.ah:=by
 have hc:=h.ae;rw [Fo.bX] at hc;have hn:=h.nd;rw [Fo.aQ,List.nodup_cons,List.nodup_append] at hn;obtain ⟨n1,n2,n3,n4⟩:=hn;have m1:∀c∈x.ah,c∈(x.app q).ah:=λc hc=>by rw [Fo.aQ];exact List.mem_append.2 (.inl hc)
 have m2:∀c∈q.ah,c∈(x.app q).ah:=λc hc=>by rw [Fo.aQ];exact List.mem_append.2 (.inr hc)
 have c2:=hc.right;rw [Fo.aB] at c2;refine ⟨⟨hc.left,h.subs.left.own,List.nodup_cons.2 ⟨λhx=>n1 (List.mem_append.2 (.inl hx)),n2⟩,⟨h.lt.1,λc hc=>h.lt.2 c (m1 c hc)⟩,λc hc=>h.lv c (hc.imp id (m1 c))⟩,
  ⟨c2,h.subs.right.own,List.nodup_cons.2 ⟨λhx=>n1 (List.mem_append.2 (.inr hx)),n3⟩,⟨h.lt.1,λc hc=>h.lt.2 c (m2 c hc)⟩,λc hc=>h.lv c (hc.imp id (m2 c))⟩,λc hc hq=>n4 c hc c hq rfl⟩
theorem Mine.join (h:Mine V x b o) (k:Mine V q b (o+x.len)) (hd:∀c∈x.ah,c∉q.ah):Mine V (x.app q) b o:=by
 have hi:(x.app q).ah=x.ah++q.ah:=Fo.aQ x q;obtain ⟨n1,n2⟩:=List.nodup_cons.1 h.nd;obtain ⟨n3,n4⟩:=List.nodup_cons.1 k.nd;refine ⟨λi v hv=>?_,?_,?_,⟨h.lt.1,λc hc=>?_⟩,λc hc=>?_⟩
 .rw [Fo.bX,List.getElem?_append] at hv
  split at hv
  .exact h.ae i v hv
  .rename_i hn
   rw [Fo.aB] at hv hn
   have:=k.ae _ v hv
   rwa [show o+x.len+(i - x.len)=o+i from by omega] at this
 .rw [hi]
  exact (h.subs.mono (λc hc=>List.mem_append.2 (.inl hc))).app (k.subs.mono (λc hc=>List.mem_append.2 (.inr hc)))
 .rw [hi]
  refine List.nodup_cons.2 ⟨λhx=>?_,List.nodup_append.2 ⟨n2,n4,λa ha c hc e=>hd a ha (by rw [e];exact hc)⟩⟩;rcases List.mem_append.1 hx with e | e
  .exact n1 e
  .exact n3 e
 .rw [hi] at hc
  rcases List.mem_append.1 hc with e | e
  .exact h.lt.2 c e
  .exact k.lt.2 c e
 .rw [hi] at hc
  rcases hc with e | e
  .exact h.lv c (.inl e)
  .rcases List.mem_append.1 e with e | e
   .exact h.lv c (.inr e)
   .exact k.lv c (.inr e)
theorem Mine.row {a:Option Addr} {n cap:Nat} {ks r:Fo} (h:Mine V (.s a n cap ks r) b o) (hl:0 < ks.len):∃c p,a=some ⟨c,p,none⟩∧V.cell? ⟨b,o,none⟩=some (.slice (some ⟨c,p,none⟩) n cap)∧Mine V ks c p∧Mine V r b (o+1)∧(c∉r.ah∧∀d∈ks.ah,d∉r.ah)∧(c≠b∧b∉ks.ah):=by
 obtain ⟨⟨s1,s2,s3⟩,s4⟩:=h.subs;obtain ⟨c,p,rfl,s,hc,hs⟩:=s3 hl;have hi:(Fo.s (some ⟨c,p,none⟩) n cap ks r).ah=c ::(ks.ah++r.ah):=by simp [Fo.ah,aT hl]
 obtain ⟨n0,n1⟩:=List.nodup_cons.1 h.nd;rw [hi] at n0 n1;obtain ⟨n2,n3⟩:=List.nodup_cons.1 n1;obtain ⟨n4,n5,n6⟩:=List.nodup_append.1 n3;have m1:∀d,d=c∨d∈ks.ah->d∈(Fo.s (some ⟨c,p,none⟩) n cap ks r).ah:=λd hd=>by
  rw [hi];rcases hd with e | e
  .rw [e];exact List.mem_cons_self
  .exact List.mem_cons_of_mem _ (List.mem_append.2 (.inl e))
 have m2:∀d,d∈r.ah->d∈(Fo.s (some ⟨c,p,none⟩) n cap ks r).ah:=λd hd=>by rw [hi];exact List.mem_cons_of_mem _ (List.mem_append.2 (.inr hd))
 refine ⟨c,p,rfl,?_,⟨hc,hs.own,List.nodup_cons.2 ⟨λhx=>n2 (List.mem_append.2 (.inl hx)),n4⟩,⟨h.lt.2 c (m1 c (.inl rfl)),λd hd=>h.lt.2 d (m1 d (.inr hd))⟩,λd hd=>h.lv d (.inr (m1 d hd))⟩,
  ⟨λi v hv=>?_,s4.own,List.nodup_cons.2 ⟨λhx=>n0 (List.mem_cons_of_mem _ (List.mem_append.2 (.inr hx))),n5⟩,⟨h.lt.1,λd hd=>h.lt.2 d (m2 d hd)⟩,λd hd=>h.lv d (hd.imp id (m2 d))⟩,⟨λhx=>n2 (List.mem_append.2 (.inr hx)),λd hd hx=>n6 d hd d hx rfl⟩,⟨λe=>n0 (by rw [e];exact List.mem_cons_self),λhx=>n0 (List.mem_cons_of_mem _ (List.mem_append.2 (.inl hx)))⟩⟩
 .exact h.ae 0 _ rfl
 .have:=h.ae (i+1) v (by simpa [Fo.vals] using hv)
  rwa [show o+(i+1)=o+1+i from by omega] at this
theorem Mine.shut {c p n cap:Nat} {ks r:Fo} (hl:0 < ks.len) (hcap:n<=cap∧cap<=maxLen) (h0:V.cell? ⟨b,o,none⟩=some (.slice (some ⟨c,p,none⟩) n cap)) (hk:Mine V ks c p) (hr:Mine V r b (o+1)) (hd:c∉r.ah∧∀d∈ks.ah,d∉r.ah) (hb:c≠b∧b∉ks.ah):Mine V (.s (some ⟨c,p,none⟩) n cap ks r) b o:=by
 have hi:(Fo.s (some ⟨c,p,none⟩) n cap ks r).ah=c ::(ks.ah++r.ah):=by simp [Fo.ah,aT hl]
 obtain ⟨n1,n2⟩:=List.nodup_cons.1 hk.nd;obtain ⟨n3,n4⟩:=List.nodup_cons.1 hr.nd;refine ⟨λi v hv=>?_,?_,?_,⟨hr.lt.1,λd hd'=>?_⟩,λd hd'=>?_⟩
 .cases i with
  | zero=>
   have e:v=.slice (some ⟨c,p,none⟩) n cap:=by simpa [Fo.vals] using hv.symm
   rw [e];exact h0
  | succ i=>
   have:=hr.ae i v (by simpa [Fo.vals] using hv)
   rwa [show o+1+i=o+(i+1) from by omega] at this
 .rw [hi]
  refine ⟨⟨hcap.1,hcap.2,λ_=>⟨c,p,rfl,List.mem_cons_self,hk.ae,hk.subs.mono (λd hd=>List.mem_cons_of_mem _ (List.mem_append.2 (.inl hd)))⟩⟩,hr.subs.mono (λd hd=>List.mem_cons_of_mem _ (List.mem_append.2 (.inr hd)))⟩
 .rw [hi]
  refine List.nodup_cons.2 ⟨λhx=>?_,List.nodup_cons.2 ⟨λhx=>?_,List.nodup_append.2 ⟨n2,n4,λa ha d hd' e=>hd.2 a ha (by rw [e];exact hd')⟩⟩⟩
  .rcases List.mem_cons.1 hx with e | e
   .exact hb.1 e.symm
   .rcases List.mem_append.1 e with e | e
    .exact hb.2 e
    .exact n3 e
  .rcases List.mem_append.1 hx with e | e
   .exact n1 e
   .exact hd.1 e
 .rw [hi] at hd'
  rcases List.mem_cons.1 hd' with e | e
  .rw [e];exact hk.lt.1
  .rcases List.mem_append.1 e with e | e
   .exact hk.lt.2 d e
   .exact hr.lt.2 d e
 .rw [hi] at hd'
  rcases hd' with e | e
  .exact hr.lv d (.inl e)
  .rcases List.mem_cons.1 e with e | e
   .exact hk.lv d (.inl e)
   .rcases List.mem_append.1 e with e | e
    .exact hk.lv d (.inr e)
    .exact hr.lv d (.inr e)
end
theorem DX (f t:ByteArray) (a b:Bool) {x:Fo} (hx:Fit E x (E 3)) (q:Fo):dH f t a b (x.app q)=(dH f t a a x).app (dH f t b b q):=by
 obtain ⟨k,nm,mn,la,ln,lc,lk,na,nn,nc,nk,ka,kn,kc,kk,aa,an,ac,ak,rfl,-⟩:=ag hx;simp only [Fo.app];rw [iN,iN,dY];simp only [Fo.app]
theorem Pt (f t:ByteArray) (a:Bool) {x:Fo} (hx:Fit E x (E 2)) (q:Fo):jZ f t a (x.app q)=(jZ f t a x).app (jZ f t a q):=by
 obtain ⟨au,ca,cn,cc,ck,y,rfl,-,-,hy⟩:=aK hx;obtain ⟨k,nm,mn,la,ln,lc,lk,na,nn,nc,nk,ka,kn,kc,kk,aa,an,ac,ak,rfl,-⟩:=ag hy;simp only [Fo.app];rw [lU,lU,gI];simp only [Fo.app]
def jo (f t:ByteArray) (a b:Bool):Nat->Fo->Fo
 | 0,F=>F
 | i+1,.v k (.v nm (.v mn (.s la ln lc lk (.s na nn nc nk (.s ka kn kc kk (.s aa an ac ak r))))))=>
  (dH f t a a (.v k (.v nm (.v mn (.s la ln lc lk (.s na nn nc nk (.s ka kn kc kk (.s aa an ac ak .nil)))))))).app (jo f t b b i r)
 | _,F=>F
theorem pG (f t:ByteArray) (a b:Bool) (i:Nat) {x:Fo} (hx:Fit E x (E 3)) (q:Fo):jo f t a b (i+1) (x.app q)=(dH f t a a x).app (jo f t b b i q):=by
 obtain ⟨k,nm,mn,la,ln,lc,lk,na,nn,nc,nk,ka,kn,kc,kk,aa,an,ac,ak,rfl,-⟩:=ag hx;simp only [Fo.app];rw [jo]
theorem uX (f t:ByteArray):∀(n:Nat) (a b:Bool) (F:Fo),Fit E F (rep (E 3) n)->jo f t a b n F=dH f t a b F
 | 0,a,b,F,h=>by rw [ai h,dY,jo]
 | n+1,a,b,F,h=>by
  obtain ⟨x,q,rfl,hx,hq,-⟩:=Fit.split (fs:=E 3) (gs:=rep (E 3) n) h;rw [pG f t a b n hx q,DX f t a b hx q,uX f t n b b q hq]
end Go.Proofs.YthfnobboalhihaaGreat
