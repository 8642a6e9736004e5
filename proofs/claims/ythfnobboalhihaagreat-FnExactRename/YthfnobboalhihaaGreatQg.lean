import Derived.Test.YthfnobboalhihaaGreatQc
import Derived.Test.YthfnobboalhihaaGreatUw
set_option maxHeartbeats 4000000
set_option maxRecDepth 100000
namespace Go.Proofs.YthfnobboalhihaaGreat
open Go.RowKit Go.Joins
theorem Tryz.info104:(Tryz.prog.info? 104).map (λi=>(i.zero,i.size,i.bytes))=some (some (.agg #[.pointer none,.bool false]),2,16):=by kernel_rfl
structure Cq where
 CB:Nat
 TB:Nat
 G:Nat
 lb:Nat
 nl:Nat
 lc:Nat
 c0:Nat
def Bu (Q:List Nd):List Value:=Q.flatMap (λd=>[d.ptr,.bool true])
theorem vF (Q:List Nd) (d:Nd):Bu (Q++[d])=Bu Q++[d.ptr,.bool true]:=by simp [Bu]
theorem nV:∀Q:List Nd,(Bu Q).length=Q.length * 2
 | []=>rfl
 | d ::Q=>by
  have:=nV Q
  unfold Bu at this ⊢;rw [List.flatMap_cons,List.length_append,this,List.length_cons]
  simp
  omega
def Cq.bs (q:Cq) (B0:World) (c:Nat):Prop:=c < B0.heap.size∧c≠q.CB∧c≠q.TB∧c≠q.c0
structure CS (q:Cq) (B0 V:World) (n:Nat) (Q:List Nd) (sv:Value):Prop where
 kb:Kept (q.bs B0) B0 V
 cG:V.cell? ⟨q.CB,0,none⟩=some (.pointer (some ⟨q.G,0,none⟩))
 cT:V.cell? ⟨q.CB,9,none⟩=some (.map (some q.TB))
 cZ:V.cell? ⟨q.CB,10,none⟩=some (.slice (some ⟨q.lb,0,none⟩) q.nl q.lc)
 cW:V.cell? ⟨q.CB,12,none⟩=some sv
 fW:V.frozen? ⟨q.CB,12,none⟩=false
 tm:TM V q.TB n
 ow:V.ownsRow B0.heap.size 104 2 sv Q.length (Bu Q)
 lt:(q.CB < B0.heap.size∧q.TB < B0.heap.size)∧q.c0 < B0.heap.size∧q.CB≠q.TB∧q.CB≠q.c0∧q.TB≠q.c0
def Kc (q:Cq) (sv:Value) (V V':World):Prop:=Kept (λc=>c≠q.CB∧c≠q.TB∧sv.ownBlock≠some c) V V'
def Nw (sv sv':Value) (V:World):Prop:=sv'.ownBlock=sv.ownBlock∨∃g,sv'.ownBlock=some g∧V.heap.size<=g
theorem Nw.refl (sv:Value) (V:World):Nw sv sv V:=.inl rfl
theorem Nw.trans {a b c:Value} {V W:World} (h:Nw a b V) (k:Nw b c W) (hz:V.heap.size<=W.heap.size):Nw a c V:=by
 rcases k with e | ⟨g,e,hg⟩
 .rcases h with e2 | ⟨g,e2,hg⟩
  .exact .inl (e.trans e2)
  .exact .inr ⟨g,e.trans e2,hg⟩
 .exact .inr ⟨g,e,Nat.le_trans hz hg⟩
theorem Nw.ne {a b:Value} {V:World} (h:Nw a b V) {c:Nat} (hc:c < V.heap.size) (hn:a.ownBlock≠some c):b.ownBlock≠some c:=by
 rcases h with e | ⟨g,e,hg⟩
 .rw [e];exact hn
 .rw [e]
  intro x
  have:g=c:=Option.some.inj x
  omega
theorem Kc.trans {q:Cq} {a b:Value} {V W X:World} (h:Kc q a V W) (k:Kc q b W X) (hw:Nw a b V):Kc q a V X:=
 ⟨k.os.trans h.os,k.tape.trans h.tape,k.output.trans h.output,Nat.le_trans h.size k.size,λc hc hs=>(k.block c (Nat.lt_of_lt_of_le hc h.size) ⟨hs.1,hs.2.1,hw.ne hc hs.2.2⟩).trans (h.block c hc hs)⟩
theorem Kc.of {q:Cq} {a:Value} {V W:World} (h:Kept (λ_=>True) V W):Kc q a V W:=h.mono (λ_ _ _=>trivial)
theorem Kc.YL {q:Cq} {a:Value} {V W:World} (h:Kept (λc=>c≠q.TB) V W):Kc q a V W:=h.mono (λ_ _ x=>x.2.1)
section
variable {q:Cq} {B0 V V':World} {n:Nat} {Q:List Nd} {sv:Value}
theorem CS.hi (h:CS q B0 V n Q sv):∀c,sv.ownBlock=some c->B0.heap.size<=c∧c < V.heap.size:=λc e=>World.ownsRow.lt h.ow c e
theorem CS.vw (h:CS q B0 V n Q sv):B0.heap.size<=V.heap.size:=h.kb.size
theorem CS.kept {T:Nat->Prop} (h:CS q B0 V n Q sv) (k:Kept T V V') (h1:T q.CB) (h2:T q.TB) (h3:∀c,sv.ownBlock=some c->T c) (h4:∀c,q.bs B0 c->T c):CS q B0 V' n Q sv:=by
 have hz:=h.vw;have hl:q.CB < V.heap.size:=Nat.lt_of_lt_of_le h.lt.1.1 hz;exact ⟨⟨k.os.trans h.kb.os,k.tape.trans h.kb.tape,k.output.trans h.kb.output,Nat.le_trans hz k.size,λc hc hs=>(k.block c (Nat.lt_of_lt_of_le hc hz) (h4 c hs)).trans (h.kb.block c hc hs)⟩,
  (k.cell (p:=⟨q.CB,0,none⟩) hl h1).trans h.cG,(k.cell (p:=⟨q.CB,9,none⟩) hl h1).trans h.cT,(k.cell (p:=⟨q.CB,10,none⟩) hl h1).trans h.cZ,(k.cell (p:=⟨q.CB,12,none⟩) hl h1).trans h.cW,(k.frozen (p:=⟨q.CB,12,none⟩) hl h1).trans h.fW,
  h.tm.kept k h2,aj h.ow k h3,h.lt⟩
theorem CS.keep (h:CS q B0 V n Q sv) (k:Kept (λ_=>True) V V'):CS q B0 V' n Q sv:=h.kept k trivial trivial (λ_ _=>trivial) (λ_ _=>trivial)
theorem CS.set (h:CS q B0 V n Q sv) {b j:Nat} (v:Value) (hb:b=q.c0∨B0.heap.size<=b) (hs:sv.ownBlock≠some b):CS q B0 (V.setCell ⟨b,j,none⟩ v) n Q sv:=by
 obtain ⟨⟨l1,l2⟩,l3,l4,l5,l6⟩:=h.lt;refine h.kept (T:=λc=>c≠b) (Kept.setCell _ _ _ _ (λx=>x rfl)) ?_ ?_ (λc e x=>hs (by rw [<- x];exact e)) (λc hc=>?_)
 .rcases hb with e | e <;> omega
 .rcases hb with e | e <;> omega
 .obtain ⟨x1,x2,x3,x4⟩:=hc
  rcases hb with e | e <;> omega
theorem CS.texts (h:CS q B0 V n Q sv) {m:Nat} (k:Kept (λc=>c≠q.TB) V V') (ht:TM V' q.TB m):CS q B0 V' m Q sv:=by
 have hz:=h.vw;obtain ⟨⟨l1,l2⟩,l3,l4,l5,l6⟩:=h.lt;have hl:q.CB < V.heap.size:=Nat.lt_of_lt_of_le l1 hz;exact ⟨⟨k.os.trans h.kb.os,k.tape.trans h.kb.tape,k.output.trans h.kb.output,Nat.le_trans hz k.size,λc hc hs=>(k.block c (Nat.lt_of_lt_of_le hc hz) hs.2.2.1).trans (h.kb.block c hc hs)⟩,
  (k.cell (p:=⟨q.CB,0,none⟩) hl l4).trans h.cG,(k.cell (p:=⟨q.CB,9,none⟩) hl l4).trans h.cT,(k.cell (p:=⟨q.CB,10,none⟩) hl l4).trans h.cZ,(k.cell (p:=⟨q.CB,12,none⟩) hl l4).trans h.cW,(k.frozen (p:=⟨q.CB,12,none⟩) hl l4).trans h.fW,
  ht,aj h.ow k (λc e x=>by have:=(h.hi c e).1;omega),h.lt⟩
theorem CS.wait (h:CS q B0 V n Q sv) (d:Nd) (hq:Q.length < 10000000):
  Calls Tryz.prog 53 #[.pointer (some ⟨q.CB,0,none⟩),d.ptr,.bool true] V λe V'=>e=.returned (.tuple #[])∧∃sv',CS q B0 V' n (Q++[d]) sv'∧Kc q sv V V'∧Nw sv sv' V:=by
 obtain ⟨m,hm⟩:∃m,Q.length=m:=⟨_,rfl⟩
 obtain ⟨⟨l1,l2⟩,l3,l4,l5,l6⟩:=h.lt;have hz:=h.vw;obtain ⟨V2,hV2⟩:∃V2,V.alloc (.cells #[d.ptr,.bool true] 104)=V2:=⟨_,rfl⟩
 have k2:Kept (λ_=>True) V V2:=by rw [<- hV2];exact Kept.alloc _ _ _
 have h2:=h.keep k2;have HN:Hid (V2.heap[V.heap.size]? =some (.cells #[d.ptr,.bool true] 104)):=by unfold Hid;rw [<- hV2];exact bH _ _
 have HOW:Hid (V2.ownsRow B0.heap.size 104 2 sv m (Bu Q)):=by have:=h2.ow;rw [hm] at this;exact this
 have HZ:Hid (B0.heap.size<=V2.heap.size):=h2.vw;have h63:Hid (m+1<=maxLen∧(m+1)* 16<=140737488355328):=⟨by unfold maxLen;omega,by omega⟩
 have iV:Hid (∀r cap W',W'.ownsRow B0.heap.size 104 2 (.slice (some ⟨r,0,none⟩) (m+1) cap) (m+1) (Bu Q++[d.ptr,.bool true])->V2.grownBy W' sv.ownBlock->(sv.ownBlock=some r∨r=V2.heap.size)->(W'.cell? ⟨q.CB,12,none⟩=some sv∧W'.frozen? ⟨q.CB,12,none⟩=false)∧Hid (∃sv',CS q B0 (W'.setCell ⟨q.CB,12,none⟩ (.slice (some ⟨r,0,none⟩) (m+1) cap)) n (Q++[d]) sv'∧Kc q sv V (W'.setCell ⟨q.CB,12,none⟩ (.slice (some ⟨r,0,none⟩) (m+1) cap))∧Nw sv sv' V)):=λr cap W' o1 o2 o3=>by
  have hi:=h2.hi;have kO:Kept (λc=>sv.ownBlock≠some c) V2 W':=Kept.grown o2 (λc e hc=>hc e);have kS:Kept (λc=>c≠q.CB) W' (W'.setCell ⟨q.CB,12,none⟩ (.slice (some ⟨r,0,none⟩) (m+1) cap)):=Kept.setCell _ _ _ _ (λx=>x rfl);have low:∀c,c < B0.heap.size->sv.ownBlock≠some c:=λc hc e=>by have:=(hi c e).1;omega
  have kk:Kept (λc=>sv.ownBlock≠some c∧c≠q.CB) V2 (W'.setCell ⟨q.CB,12,none⟩ (.slice (some ⟨r,0,none⟩) (m+1) cap)):=(kO.mono (λ_ _ x=>x.1)).trans (kS.mono (λ_ _ x=>x.2));have hB:=h2.vw;have cO:∀j,W'.cell? ⟨q.CB,j,none⟩=V2.cell? ⟨q.CB,j,none⟩:=λj=>kO.cell (p:=⟨q.CB,j,none⟩) (by show q.CB < _;omega) (low _ l1)
  have fO:∀j,W'.frozen? ⟨q.CB,j,none⟩=V2.frozen? ⟨q.CB,j,none⟩:=λj=>kO.frozen (p:=⟨q.CB,j,none⟩) (by show q.CB < _;omega) (low _ l1)
  have cS:∀j,j≠12->(W'.setCell ⟨q.CB,12,none⟩ (.slice (some ⟨r,0,none⟩) (m+1) cap)).cell? ⟨q.CB,j,none⟩=V2.cell? ⟨q.CB,j,none⟩:=λj hj=>by
   rw [World.cell?_setCell_other _ _ _ _ (λe=>hj (by have:=congrArg Addr.off e;simp at this;omega))];exact cO j
  refine ⟨⟨(cO 12).trans h2.cW,(fO 12).trans h2.fW⟩,.slice (some ⟨r,0,none⟩) (m+1) cap,⟨⟨kk.os.trans h2.kb.os,kk.tape.trans h2.kb.tape,kk.output.trans h2.kb.output,Nat.le_trans hB kk.size,λc hc hs=>(kk.block c (by omega) ⟨low c hs.1,hs.2.1⟩).trans (h2.kb.block c hc hs)⟩,
   (cS 0 (by decide)).trans h2.cG,(cS 9 (by decide)).trans h2.cT,(cS 10 (by decide)).trans h2.cZ,World.cell?_setCell_same _ _ _ ((cO 12).trans h2.cW),by rw [World.frozen?_setCell];exact (fO 12).trans h2.fW,
   h2.tm.kept kk ⟨low _ l2,λe=>l4 e.symm⟩,?_,h.lt⟩,?_,?_⟩
  .rw [List.length_append,hm,vF]
   exact aj o1 kS (λc e x=>by have:=(World.ownsRow.lt o1 c e).1;omega)
  .exact ((k2.mono (λ_ _ _=>trivial)).trans (kk.mono (T:=λc=>c≠q.CB∧c≠q.TB∧sv.ownBlock≠some c) (λ_ _ x=>⟨x.2.2,x.1⟩)))
  .rcases o3 with e | e
   .exact .inl e.symm
   .exact .inr ⟨r,rfl,by have:=k2.size;omega⟩
 have c12:=h2.cW;have JF:=h.cW;have qW:=hide hV2;clear h h2 k2 hV2 hz l1 l2 l3 l4 l5 l6;unfold Nd.ptr at *;go_enter Tryz.func53,Tryz.ntmps53;go_wp2_with (at_builtin;rw [qW.out];refine iB rfl _ _ 95 104 rfl Tryz.info104 Tryz.underlying95 rfl (by decide) B0.heap.size V2 sv m (Bu Q) [.pointer (some ⟨d.b,d.o,none⟩),.bool true] _ _ rfl rfl HZ.out HOW.out HN.out rfl (by simp [Value.oneCell']) h63.out.1 h63.out.2 ?_;intro r cap w3 gX fB rW;have jF:=hide (iV.out r cap w3 gX fB rW);have x1:=jF.out.1.1;have x2:=jF.out.1.2;clear gX fB rW);exact bodyPost_end (results_none rfl _ _ _) rfl ⟨rfl,jF.out.2.out⟩
end
theorem zz125 {P:Prop} (h:P:=by
 refine ⟨by simp [g1],λi d hd=>?_⟩
 cases i with
 | zero=>simp only [List.getElem?_cons_zero,Option.some.injEq] at hd;subst hd;exact ⟨rfl,by simp⟩
 | succ i=>
  exact zz77):P:=h
theorem zz193 {P:Prop} (h:P:=by
 go_wp2_with fail;go_roundw
 case rel=>exact ⟨j+1,by go_num,by omega,HI2⟩
 case measure=>simp [intOf];omega):P:=h
theorem yt (b:Nat):∀(n o:Nat) (F:Fo),Fit E F (rep (E 3) n)->(aS b o F).length=n∧∀i d,(aS b o F)[i]? =some d->d.b=b∧d.o=o+i * 7
 | 0,o,F,h=>by rw [ai h];exact ⟨rfl,λi d hd=>by simp [aS] at hd⟩
 | n+1,o,F,h=>by
  obtain ⟨x,q,rfl,hx,hq,hl⟩:=Fit.split (fs:=E 3) (gs:=rep (E 3) n) h;obtain ⟨g1,g2⟩:=yt b n (o+7) q hq;obtain ⟨k,nm,mn,la,ln,lc,lk,na,nn,nc,nk,ka,kn,kc,kk,aa,an,ac,ak,rfl,-⟩:=ag hx;simp only [Fo.app,aS];exact zz125
theorem CK (b:Nat):∀(n o:Nat) (F:Fo),Fit E F (rep (E 2) n)->(aJ b o F).length=n∧∀i d,(aJ b o F)[i]? =some d->d.b=b∧d.o=o+i * 9+2
 | 0,o,F,h=>by rw [ai h];exact ⟨rfl,λi d hd=>by simp [aJ] at hd⟩
 | n+1,o,F,h=>by
  obtain ⟨x,q,rfl,hx,hq,hl⟩:=Fit.split (fs:=E 2) (gs:=rep (E 2) n) h;obtain ⟨g1,g2⟩:=CK b n (o+9) q hq;obtain ⟨au,ca,cn,cc,ck,y,rfl,-,-,hy⟩:=aK hx;obtain ⟨k,nm,mn,la,ln,lc,lk,na,nn,nc,nk,ka,kn,kc,kk,aa,an,ac,ak,rfl,-⟩:=ag hy;simp only [Fo.app,aJ];exact zz125
structure Sz (q:Cq) (B0:World):Prop where
 rd:∀i,i < q.nl->∃x:Int,B0.cell? ⟨q.lb,i,none⟩=some (.int .i64 x)
 bs:q.bs B0 q.lb
 le:q.nl<=q.lc∧q.nl<=10000000
theorem Sz.at_ {q:Cq} {B0 V:World} {n:Nat} {Q:List Nd} {sv:Value} (z:Sz q B0) (h:CS q B0 V n Q sv) {i:Nat} (hi:i < q.nl):∃x:Int,V.cell? ⟨q.lb,i,none⟩=some (.int .i64 x):=by
 obtain ⟨x,hx⟩:=z.rd i hi;exact ⟨x,(h.kb.cell (p:=⟨q.lb,i,none⟩) z.bs.1 z.bs).trans hx⟩
theorem Kz {q:Cq} {B0 V:World} {n:Nat} {Q:List Nd} {sv:Value} (z:Sz q B0) (h:CS q B0 V n Q sv) (p:Value) (a:Option Addr) (m c i:Nat) (kk:Fo) (hf:Fit E kk (rep (E 3) m)) (hv:Hv V a m kk.vals) (hm:m<=1048576) (hi:i < q.nl) (hQ:Q.length+m < 10000000):
  Calls Tryz.prog 91 #[.pointer (some ⟨q.CB,0,none⟩),p,.slice a m c,.int .i64 i,.bool true,.func (.func 53) #[.pointer (some ⟨q.CB,0,none⟩)] #[]] V λe V'=>∃a' cap sv',e=.returned (.slice a' m cap)∧CS q B0 V' n (Q++eP a' kk) sv'∧aY V' (λb=>V.heap.size<=b∧b < V'.heap.size∧sv'.ownBlock≠some b) a' m cap kk.vals∧Kc q sv V V'∧Nw sv sv' V:=by
 obtain ⟨x,hx⟩:=z.at_ h hi;have cZ:=h.cZ;have HN:=hide (QG a m c kk.vals V hm (by rw [Fo.aB,Fit.len hf,dz];rfl) hf.one hv);have HR:=hide (yo q.CB x V);have HH:=hide h;have HF:=hide hf;have hlc:i < q.lc:=by have:=z.le.1;omega
 have HQ:=hide hQ;clear h hv z hf hQ;go_enter Tryz.func91,Tryz.ntmps91;go_wp2_with (first | (go_at_call 119;refine HR.out.mono ?_;rintro e w ⟨rfl,rfl⟩) | (go_at_call 122;refine HN.out.mono ?_;rintro e w1 ⟨a',cap,rfl,r1,r2⟩;have HR1:=hide r1;have HR2:=hide r2;have hcap:=r1.1;clear r1 r2));have hmx:(m:Int)<=9223372036854775807:=by omega
 have HI:Hid (∃sv',CS q B0 w1 n (Q++(eP a' kk).take 0) sv'∧aY w1 (λb=>w.heap.size<=b∧b < w1.heap.size) a' m cap kk.vals∧Kc q sv w1 w1∧Nw sv sv' w1):=⟨sv,by rw [List.take_zero,List.append_nil];exact HH.out.keep HR2.out,HR1.out,Kept.refl _ _,Nw.refl _ _⟩
 go_loopw [14,32] (λ_ CL wr=>∃j:Nat,CL=.int .i64 j∧j<=m∧Hid (∃sv',CS q B0 wr n (Q++(eP a' kk).take j) sv'∧aY wr (λb=>w.heap.size<=b∧b < w1.heap.size) a' m cap kk.vals∧Kc q sv w1 wr∧Nw sv sv' w1)) (λ_ CL _=>m - (intOf CL).toNat)
 case atStart=>exact ⟨0,rfl,Nat.zero_le _,HI⟩
 case round=>
  obtain ⟨j,rfl,hj,hI⟩:=hrel
  by_cases hlt:j < m
  .obtain ⟨sv',cs,rw',kc,nw⟩:=hI.out
   obtain ⟨b,rfl,⟨hb1,hb2⟩,hc,hfz⟩:=rw'.2.2 (by omega);obtain ⟨g1,g2⟩:=yt b m 0 kk HF.out;obtain ⟨d,hd⟩:∃d,(aS b 0 kk)[j]? =some d:=⟨_,List.getElem?_eq_getElem (by rw [g1];exact hlt)⟩
   obtain ⟨e1,e2⟩:=g2 j d hd;rw [Nat.zero_add] at e2;have hw:=cs.wait d (by rw [List.length_append,List.length_take];have:=HQ.out;omega);unfold Nd.ptr at hw;rw [e1,e2] at hw;have HW:=hide hw;have hjj:(j:Int) < m:=by omega
   have pK:Hid (∀w2 CO,CS q B0 w2 n ((Q++(eP (some ⟨b,0,none⟩) kk).take j)++[d]) CO->Kc q sv' wr w2->Nw sv' CO wr->∃sv',CS q B0 w2 n (Q++(eP (some ⟨b,0,none⟩) kk).take (j+1)) sv'∧aY w2 (λb=>w.heap.size<=b∧b < w1.heap.size) (some ⟨b,0,none⟩) m cap kk.vals∧Kc q sv w1 w2∧Nw sv sv' w1):=λw2 CO c2 k2 n2=>by
    have hd':(eP (some ⟨b,0,none⟩) kk)[j]? =some d:=hd;obtain ⟨⟨l1,l2⟩,l3,l4,l5,l6⟩:=cs.lt;have hzz:=HH.out.vw;refine ⟨CO,?_,rw'.keep k2 (λc hc=>⟨⟨?_,?_,nw.ne hc.2 (λe=>by have:=(HH.out.hi c e).2;omega)⟩,?_⟩) (λc hc=>hc),kc.trans k2 nw,nw.trans n2 kc.size⟩
    .rw [List.take_add_one,hd',<- List.append_assoc];exact c2
    .have:=hc.1;omega
    .have:=hc.1;omega
    .exact Nat.lt_of_lt_of_le hc.2 kc.size
   clear hI cs rw' kc nw hc hfz g1 g2 hd e1 e2 hw hb1 hb2;go_wp2_with fail;refine HW.out.mono ?_;rintro e w2 ⟨rfl,CO,c2,k2,n2⟩;have HI2:=hide (pK.out w2 CO c2 k2 n2);clear c2 k2 n2 HW pK;exact zz193
  .have e:j=m:=by omega
   subst e;go_wp2_with fail;go_ret;obtain ⟨sv',cs,rw',kc,nw⟩:=hI.out;have hz1:=HR2.out.size;refine ⟨a',cap,sv',rfl,?_,?_,(Kc.of HR2.out).trans kc (Nw.refl _ _),(Nw.refl sv w).trans nw hz1⟩
   .have hlen:(eP a' kk).take j=eP a' kk:=by
     apply List.take_of_length_le
     cases a' with
     | none=>simp [eP]
     | some p=>unfold eP;rw [(yt p.block j p.off kk HF.out).1];exact Nat.le_refl _
    rw [hlen] at cs;exact cs
   .exact ⟨rw'.1,rw'.2.1,λhn=>by
     obtain ⟨b,e,⟨t1,t2⟩,r⟩:=rw'.2.2 hn;exact ⟨b,e,⟨t1,Nat.lt_of_lt_of_le t2 kc.size,nw.ne t2 (λe=>by have:=(HH.out.hi b e).2;omega)⟩,r⟩⟩
structure AC (q:Cq) (sv:Value) (V V':World) (ab j:Nat):Prop where
 kp:Kept (λc=>c≠ab∧c≠q.CB∧c≠q.TB∧sv.ownBlock≠some c) V V'
 ce:∀i,i≠j->V'.cell? ⟨ab,i,none⟩=V.cell? ⟨ab,i,none⟩
 fz:∀i,V'.frozen? ⟨ab,i,none⟩=V.frozen? ⟨ab,i,none⟩
theorem qD {V:World} {b i:Nat} {u v:Value} (h:V.cell? ⟨b,i,none⟩=some u):∀j,(V.setCell ⟨b,i,none⟩ v).cell? ⟨b,j,none⟩=if j=i then some v else V.cell? ⟨b,j,none⟩:=λj=>by
 by_cases e:j=i
 .subst e
  rw [if_pos rfl];exact World.cell?_setCell_same _ _ _ h
 .rw [if_neg e]
  exact World.cell?_setCell_other _ _ _ _ (λx=>e (by have:=congrArg Addr.off x;simp at this;omega))
theorem We {q:Cq} {B0 V:World} {n:Nat} {Q:List Nd} {sv:Value} (h:CS q B0 V n Q sv) {tb ab o:Nat} (ht:V.cell? ⟨tb,0,none⟩=some (.pointer (some ⟨q.CB,0,none⟩))) (htn:B0.heap.size<=tb∧tb≠ab∧sv.ownBlock≠some tb) {au:ByteArray} {ca:Option Addr} {cn cc:Nat} {L:List ByteArray} {y:Fo}
  (h0:V.cell? ⟨ab,o,none⟩=some (.string au)) (h1:V.cell? ⟨ab,o+1,none⟩=some (.slice ca cn cc)) (hfz:∀j,V.frozen? ⟨ab,j,none⟩=false) (hab:B0.heap.size<=ab∧sv.ownBlock≠some ab) (hcon:au.size<=16777216) (hL:L.length=cn) (hLs:∀x∈L,x.size<=16777216) (hcn:cn<=1048576)
  (hv:cn=0∨∃b oo,ca=some ⟨b,oo,none⟩∧q.bs B0 b∧bD B0 (L.map Value.string) b oo) (hn:n+1+cn < 10000000) (hQ:Q.length < 10000000):
  Calls Tryz.prog 94 #[.pointer (some ⟨ab,o,none⟩),.bool true,.pointer (some ⟨tb,0,none⟩)] V λe V'=>e=.returned (.tuple #[])∧∃iA cc' sv',CS q B0 V' (n+1+cn) (Q++[⟨ab,o+2,y⟩]) sv'∧V'.cell? ⟨ab,o+1,none⟩=some (.slice iA cn cc')∧aY V' (λb=>V.heap.size<=b∧b < V'.heap.size∧sv'.ownBlock≠some b) iA cn cc' (L.map Value.string)∧AC q sv V V' ab (o+1)∧Nw sv sv' V:=by
 obtain ⟨⟨l1,l2⟩,l3,l4,l5,l6⟩:=h.lt;have hz:=h.vw;have hal:ab < V.heap.size:=block_lt_of_cell h0;have htl:tb < V.heap.size:=block_lt_of_cell ht;have HA:Hid (∀X,Kept (λ_=>True) V X->(X.cell? ⟨tb,0,none⟩=some (.pointer (some ⟨q.CB,0,none⟩))∧X.cell? ⟨ab,o,none⟩=some (.string au))∧Calls Tryz.prog 88 #[.pointer (some ⟨q.CB,0,none⟩),.string au] X λe V1=>e=.returned (.string au)∧(V1.cell? ⟨ab,o,none⟩=some (.string au)∧V1.frozen? ⟨ab,o,none⟩=false)∧Hid (CS q B0 (V1.setCell ⟨ab,o,none⟩ (.string au)) (n+1) Q sv∧Kept (λc=>c≠ab∧c≠q.TB) V (V1.setCell ⟨ab,o,none⟩ (.string au))∧(∀i,(V1.setCell ⟨ab,o,none⟩ (.string au)).cell? ⟨ab,i,none⟩=V.cell? ⟨ab,i,none⟩)∧∀i,(V1.setCell ⟨ab,o,none⟩ (.string au)).frozen? ⟨ab,i,none⟩=false)):=λX kX=>by
  have hX:=h.keep kX;have c0:=(kX.cell (p:=⟨ab,o,none⟩) hal trivial).trans h0;refine ⟨⟨(kX.cell (p:=⟨tb,0,none⟩) htl trivial).trans ht,c0⟩,?_⟩;refine (He hX.cT hX.tm (by omega) au hcon).mono ?_;rintro e V1 ⟨rfl,t1,k1⟩;have Dy:ab < X.heap.size:=by have:=kX.size;omega
  have cc:∀i,V1.cell? ⟨ab,i,none⟩=V.cell? ⟨ab,i,none⟩:=λi=>(k1.cell (p:=⟨ab,i,none⟩) Dy (by show ab≠q.TB;omega)).trans (kX.cell (p:=⟨ab,i,none⟩) hal trivial)
  have ff:∀i,V1.frozen? ⟨ab,i,none⟩=false:=λi=>((k1.frozen (p:=⟨ab,i,none⟩) Dy (by show ab≠q.TB;omega)).trans (kX.frozen (p:=⟨ab,i,none⟩) hal trivial)).trans (hfz i)
  refine ⟨rfl,⟨(cc o).trans h0,ff o⟩,(hX.texts k1 t1).set _ (.inr hab.1) hab.2,?_,λi=>?_,λi=>by rw [World.frozen?_setCell];exact ff i⟩
  .exact (((kX.mono (λ_ _ _=>trivial)).trans (k1.mono (λ_ _ x=>x.2))).trans ((Kept.setCell (λc=>c≠ab) _ _ _ (λx=>x rfl)).mono (λ_ _ x=>x.1)))
  .rw [qD ((cc o).trans h0) i]
   by_cases e:i=o
   .rw [if_pos e,e,h0]
   .rw [if_neg e];exact cc i
 have HB:Hid (∀X,Hid (CS q B0 X (n+1) Q sv∧Kept (λc=>c≠ab∧c≠q.TB) V X∧(∀i,X.cell? ⟨ab,i,none⟩=V.cell? ⟨ab,i,none⟩)∧∀i,X.frozen? ⟨ab,i,none⟩=false)->∀Y,Kept (λ_=>True) X Y->(Y.cell? ⟨tb,0,none⟩=some (.pointer (some ⟨q.CB,0,none⟩))∧Y.cell? ⟨ab,o+1,none⟩=some (.slice ca cn cc))∧Calls Tryz.prog 89 #[.pointer (some ⟨q.CB,0,none⟩),.slice ca cn cc,.bool true] Y λe V2=>∃iA cc',e=.returned (.slice iA cn cc')∧(V2.cell? ⟨ab,o+1,none⟩=some (.slice ca cn cc)∧V2.frozen? ⟨ab,o+1,none⟩=false)∧(V2.setCell ⟨ab,o+1,none⟩ (.slice iA cn cc')).cell? ⟨tb,0,none⟩=some (.pointer (some ⟨q.CB,0,none⟩))∧Hid (CS q B0 (V2.setCell ⟨ab,o+1,none⟩ (.slice iA cn cc')) (n+1+cn) Q sv∧aY (V2.setCell ⟨ab,o+1,none⟩ (.slice iA cn cc')) (λb=>V.heap.size<=b∧b < V2.heap.size) iA cn cc' (L.map Value.string)∧Kept (λc=>c≠ab∧c≠q.TB) V (V2.setCell ⟨ab,o+1,none⟩ (.slice iA cn cc'))∧(∀i,(V2.setCell ⟨ab,o+1,none⟩ (.slice iA cn cc')).cell? ⟨ab,i,none⟩=if i=o+1 then some (.slice iA cn cc') else V.cell? ⟨ab,i,none⟩)∧∀i,(V2.setCell ⟨ab,o+1,none⟩ (.slice iA cn cc')).frozen? ⟨ab,i,none⟩=false)):=λX hX Y kY=>by
  obtain ⟨cX,kX,eX,fX⟩:=hX.out;have cY:=cX.keep kY;have Dy:ab < X.heap.size:=by have:=kX.size;omega
  have hYl:ab < Y.heap.size:=by have:=kY.size;omega
  have O8:X.cell? ⟨tb,0,none⟩=some (.pointer (some ⟨q.CB,0,none⟩)):=(kX.cell (p:=⟨tb,0,none⟩) htl ⟨htn.2.1,by show tb≠q.TB;omega⟩).trans ht;have aaa:tb < X.heap.size:=block_lt_of_cell O8;have htY:=(kY.cell (p:=⟨tb,0,none⟩) aaa trivial).trans O8;have c1Y:Y.cell? ⟨ab,o+1,none⟩=some (.slice ca cn cc):=((kY.cell (p:=⟨ab,o+1,none⟩) Dy trivial).trans (eX (o+1))).trans h1;refine ⟨⟨htY,c1Y⟩,?_⟩;have hvY:Hv Y ca cn (L.map Value.string):=λhp=>by
   rcases hv with e | ⟨b,oo,e,hb,hc⟩
   .omega
   .exact ⟨b,oo,e,Nat.lt_of_lt_of_le hb.1 cY.vw,hc.kept cY.kb hb.1 hb⟩
  refine (xH cY.cT cY.tm l4 ca cn cc L hL (by omega) hcn hLs hvY).mono ?_;rintro e V2 ⟨iA,cc',rfl,r2,t2,k2⟩;have zY:=kY.size;have zX:=kX.size;have z2:=k2.size;have Wh:∀i,V2.cell? ⟨ab,i,none⟩=V.cell? ⟨ab,i,none⟩:=λi=>((k2.cell (p:=⟨ab,i,none⟩) hYl (by show ab≠q.TB;omega)).trans (kY.cell (p:=⟨ab,i,none⟩) Dy trivial)).trans (eX i)
  have ff2:∀i,V2.frozen? ⟨ab,i,none⟩=false:=λi=>((k2.frozen (p:=⟨ab,i,none⟩) hYl (by show ab≠q.TB;omega)).trans (kY.frozen (p:=⟨ab,i,none⟩) Dy trivial)).trans (fX i)
  have kS:Kept (λc=>c≠ab) V2 (V2.setCell ⟨ab,o+1,none⟩ (.slice iA cn cc')):=Kept.setCell _ _ _ _ (λx=>x rfl);refine ⟨iA,cc',rfl,⟨(Wh (o+1)).trans h1,ff2 (o+1)⟩,?_,(cY.texts k2 t2).set _ (.inr hab.1) hab.2,?_,?_,λi=>?_,λi=>by rw [World.frozen?_setCell];exact ff2 i⟩
  .rw [kS.cell (p:=⟨tb,0,none⟩) (by show tb < V2.heap.size;omega) htn.2.1,k2.cell (p:=⟨tb,0,none⟩) (by show tb < Y.heap.size;omega) (by show tb≠q.TB;omega)]
   exact htY
  .exact r2.keep kS (λc hc=>⟨by show c≠ab;have:=hc.1;omega,hc.2⟩) (λc hc=>⟨by have:=hc.1;omega,hc.2⟩)
  .exact ((kX.trans (kY.mono (λ_ _ _=>trivial))).trans (k2.mono (λ_ _ x=>x.2))).trans (kS.mono (λ_ _ x=>x.1))
  .rw [qD ((Wh (o+1)).trans h1) i]
   by_cases e:i=o+1
   .rw [if_pos e,if_pos e]
   .rw [if_neg e,if_neg e];exact Wh i
 have HC:Hid (∀iA cc' X z2,Hid (CS q B0 X (n+1+cn) Q sv∧aY X (λb=>V.heap.size<=b∧b < z2) iA cn cc' (L.map Value.string)∧Kept (λc=>c≠ab∧c≠q.TB) V X∧(∀i,X.cell? ⟨ab,i,none⟩=if i=o+1 then some (.slice iA cn cc') else V.cell? ⟨ab,i,none⟩)∧∀i,X.frozen? ⟨ab,i,none⟩=false)->z2<=X.heap.size->(X.cell? ⟨tb,0,none⟩=some (.pointer (some ⟨q.CB,0,none⟩)))->∀Y,Kept (λ_=>True) X Y->Y.cell? ⟨tb,0,none⟩=some (.pointer (some ⟨q.CB,0,none⟩))∧Calls Tryz.prog 53 #[.pointer (some ⟨q.CB,0,none⟩),.pointer (some ⟨ab,o+2,none⟩),.bool true] Y λe V'=>e=.returned (.tuple #[])∧Hid (∃iA cc' sv',CS q B0 V' (n+1+cn) (Q++[⟨ab,o+2,y⟩]) sv'∧V'.cell? ⟨ab,o+1,none⟩=some (.slice iA cn cc')∧aY V' (λb=>V.heap.size<=b∧b < V'.heap.size∧sv'.ownBlock≠some b) iA cn cc' (L.map Value.string)∧AC q sv V V' ab (o+1)∧Nw sv sv' V)):=λiA cc' X0 z2 hX0 hz0 O8 X kY=>by
  refine ⟨(kY.cell (p:=⟨tb,0,none⟩) (block_lt_of_cell O8) trivial).trans O8,?_⟩;have hX:Hid (CS q B0 X (n+1+cn) Q sv∧aY X (λb=>V.heap.size<=b∧b < z2) iA cn cc' (L.map Value.string)∧Kept (λc=>c≠ab∧c≠q.TB) V X∧(∀i,X.cell? ⟨ab,i,none⟩=if i=o+1 then some (.slice iA cn cc') else V.cell? ⟨ab,i,none⟩)∧∀i,X.frozen? ⟨ab,i,none⟩=false):=by
   obtain ⟨cX,rX,kX,eX,fX⟩:=hX0.out;have hl0:ab < X0.heap.size:=by have:=kX.size;omega
   exact ⟨cX.keep kY,rX.keep kY (λc hc=>⟨trivial,by have:=hc.2;omega⟩) (λ_ h=>h),kX.trans (kY.mono (λ_ _ _=>trivial)),λi=>(kY.cell (p:=⟨ab,i,none⟩) hl0 trivial).trans (eX i),λi=>(kY.frozen (p:=⟨ab,i,none⟩) hl0 trivial).trans (fX i)⟩
  have hz2:z2<=X.heap.size:=Nat.le_trans hz0 kY.size;obtain ⟨cX,rX,kX,eX,fX⟩:=hX.out;refine (cX.wait ⟨ab,o+2,y⟩ hQ).mono ?_;rintro e V' ⟨rfl,sv',c3,k3,n3⟩;have zX:=kX.size;have z3:=k3.size;have Dy:ab < X.heap.size:=by omega
  have n3':Nw sv sv' V:=(Nw.refl sv V).trans n3 zX;have kab:∀i,V'.cell? ⟨ab,i,none⟩=X.cell? ⟨ab,i,none⟩:=λi=>k3.cell (p:=⟨ab,i,none⟩) Dy ⟨by show ab≠q.CB;omega,by show ab≠q.TB;omega,hab.2⟩
  refine ⟨rfl,iA,cc',sv',c3,?_,?_,⟨?_,λi hi=>?_,λi=>?_⟩,n3'⟩
  .rw [kab,eX,if_pos rfl]
  .refine rX.keep k3 (λc hc=>⟨⟨?_,?_,λe=>?_⟩,?_⟩) (λc hc=>⟨hc.1,by have:=hc.2;omega,n3.ne (by have:=hc.2;omega) (λe=>?_)⟩)
   .have:=hc.1;omega
   .have:=hc.1;omega
   .have:=(h.hi c e).2;have:=hc.1;omega
   .have:=hc.2;omega
   .have:=(h.hi c e).2;have:=hc.1;omega
  .exact (kX.mono (T:=λc=>c≠ab∧c≠q.CB∧c≠q.TB∧sv.ownBlock≠some c) (λ_ _ x=>⟨x.1,x.2.2.1⟩)).trans (k3.mono (λ_ _ x=>x.2))
  .rw [kab,eX,if_neg hi]
  .rw [k3.frozen (p:=⟨ab,i,none⟩) Dy ⟨by show ab≠q.CB;omega,by show ab≠q.TB;omega,hab.2⟩,fX,hfz]
 have HD:Hid (Kept (λ_=>True) V V.drew):=Kept.drew _ _;obtain ⟨⟨a1,a2⟩,a3⟩:=HA.out V (Kept.refl _ _);obtain ⟨⟨b1,b2⟩,b3⟩:=HA.out V.drew HD.out;have A3:=hide a3;have B3:=hide b3;clear h ht htn h0 h1 hfz hab hv l1 l2 l3 l4 l5 l6 hz hal htl a3 b3;go_enter Tryz.func94,Tryz.ntmps94
 go_upto_region 0 with fail
 go_region_with (go_at_call 88;first | (refine B3.out.mono ?_;rintro e V1 ⟨rfl,⟨p1,p2⟩,p3⟩) | (refine A3.out.mono ?_;rintro e V1 ⟨rfl,⟨p1,p2⟩,p3⟩))
 all_goals
  clear a1 a2 b1 b2 A3 B3;obtain ⟨⟨c1,c2⟩,c3⟩:=HB.out _ p3 _ (Kept.refl _ _);obtain ⟨⟨d1,d2⟩,d3⟩:=HB.out _ p3 _ (Kept.drew _ _);have C3:=hide c3;have D3:=hide d3;clear c3 d3 p1 p2 p3
  go_upto_region 1 with fail
  go_region_with (go_at_call 89;first | (refine D3.out.mono ?_;rintro e V2 ⟨iA,cc',rfl,⟨p1,p2⟩,p3,p4⟩) | (refine C3.out.mono ?_;rintro e V2 ⟨iA,cc',rfl,⟨p1,p2⟩,p3,p4⟩))
  all_goals
   clear c1 c2 d1 d2 C3 D3;have hS:V2.heap.size<=(V2.setCell ⟨ab,o+1,none⟩ (.slice iA cn cc')).heap.size:=by simp [World.setCell]
   obtain ⟨f1,f2⟩:=HC.out iA cc' _ V2.heap.size p4 hS p3 _ (Kept.refl _ _);obtain ⟨g1,g2⟩:=HC.out iA cc' _ V2.heap.size p4 hS p3 _ (Kept.drew _ _);have F2:=hide f2;have G2:=hide g2;clear p4 p1 p2 p3 f2 g2 hS
   go_upto_region 2 with fail
   go_region_with (go_at_call 53;first | (refine G2.out.mono ?_;rintro e V3 ⟨rfl,q9⟩) | (refine F2.out.mono ?_;rintro e V3 ⟨rfl,q9⟩))
   all_goals
    go_wp2_with fail;exact bodyPost_end (results_none rfl _ _ _) rfl ⟨rfl,q9.out⟩
theorem strs:∀(n:Nat) (F:Fo),Fit E F (rep (E 1) n)->∃L:List ByteArray,F.vals=L.map Value.string∧L.length=n∧∀x∈L,x.size<=F.wt
 | 0,F,h=>by rw [ai h];exact ⟨[],rfl,rfl,λx hx=>by cases hx⟩
 | n+1,F,h=>by
  replace h:Fit E F (.t ::rep (E 1) n):=h;obtain ⟨x,r,rfl,-,hr⟩:=aU h;obtain ⟨L,h1,h2,h3⟩:=strs n r hr;refine ⟨x ::L,by simp [Fo.vals,h1],by simp [h2],λy hy=>?_⟩;simp only [Fo.wt,bU];rcases List.mem_cons.1 hy with rfl | hy
  .omega
  .have:=h3 y hy;omega
def kE:Fo->Nat
 | .v _ (.s _ cn _ _ (.v _ (.v _ (.v _ (.s _ _ _ _ (.s _ _ _ _ (.s _ _ _ _ (.s _ _ _ _ r))))))))=>1+cn+kE r
 | _=>0
theorem AQ {V:World} {lo b:Nat}:∀(n o:Nat) (D R:Fo),Fit E D (rep (E 2) n)->dF V lo b o D->dF V lo b (o+n * 9) R->dF V lo b o (D.app R)
 | 0,o,D,R,hf,_,k=>by rw [ai hf];simpa [Fo.app] using k
 | n+1,o,D,R,hf,h,k=>by
  obtain ⟨x,q,rfl,hx,hq,hl⟩:=Fit.split (fs:=E 2) (gs:=rep (E 2) n) hf;obtain ⟨au,ca,cn,cc,ck,y,rfl,-,-,hy⟩:=aK hx;obtain ⟨k',nm,mn,la,ln,lc,lk,na,nn,nc,nk,ka,kn,kc,kk,aa,an,ac,ak,rfl,-⟩:=ag hy;simp only [Fo.app,dF] at h ⊢;exact ⟨h.1,h.2.1,h.2.2.1,h.2.2.2.1,AQ n (o+9) q R hq h.2.2.2.2 (by rw [show o+9+n * 9=o+(n+1)* 9 from by omega];exact k)⟩
theorem AU:∀(n:Nat) (D R:Fo),Fit E D (rep (E 2) n)->iq (D.app R)=iq D++iq R
 | 0,D,R,hf=>by rw [ai hf];simp [Fo.app,iq]
 | n+1,D,R,hf=>by
  obtain ⟨x,q,rfl,hx,hq,hl⟩:=Fit.split (fs:=E 2) (gs:=rep (E 2) n) hf;obtain ⟨au,ca,cn,cc,ck,y,rfl,-,-,hy⟩:=aK hx;obtain ⟨k',nm,mn,la,ln,lc,lk,na,nn,nc,nk,ka,kn,kc,kk,aa,an,ac,ak,rfl,-⟩:=ag hy;simp only [Fo.app,iq,AU n q R hq,List.append_assoc]
theorem AV:∀(n:Nat) (D R:Fo),Fit E D (rep (E 2) n)->kE (D.app R)=kE D+kE R
 | 0,D,R,hf=>by rw [ai hf];simp [Fo.app,kE]
 | n+1,D,R,hf=>by
  obtain ⟨x,q,rfl,hx,hq,hl⟩:=Fit.split (fs:=E 2) (gs:=rep (E 2) n) hf;obtain ⟨au,ca,cn,cc,ck,y,rfl,-,-,hy⟩:=aK hx;obtain ⟨k',nm,mn,la,ln,lc,lk,na,nn,nc,nk,ka,kn,kc,kk,aa,an,ac,ak,rfl,-⟩:=ag hy;simp only [Fo.app,kE,AV n q R hq];omega
theorem sw (b:Nat):∀(n o:Nat) (D R:Fo),Fit E D (rep (E 2) n)->aJ b o (D.app R)=aJ b o D++aJ b (o+n * 9) R
 | 0,o,D,R,hf=>by rw [ai hf];simp [Fo.app,aJ]
 | n+1,o,D,R,hf=>by
  obtain ⟨x,q,rfl,hx,hq,hl⟩:=Fit.split (fs:=E 2) (gs:=rep (E 2) n) hf;obtain ⟨au,ca,cn,cc,ck,y,rfl,-,-,hy⟩:=aK hx;obtain ⟨k',nm,mn,la,ln,lc,lk,na,nn,nc,nk,ka,kn,kc,kk,aa,an,ac,ak,rfl,-⟩:=ag hy;simp only [Fo.app,aJ,sw b n (o+9) q R hq,List.cons_append];rw [show o+9+n * 9=o+(n+1)* 9 from by omega]
theorem G9 (b b':Nat):∀(n o o':Nat) (F:Fo),Fit E F (rep (E 2) n)->(aJ b o F).map Nd.x=(aJ b' o' F).map Nd.x
 | 0,o,o',F,h=>by rw [ai h];simp [aJ]
 | n+1,o,o',F,h=>by
  obtain ⟨x,q,rfl,hx,hq,hl⟩:=Fit.split (fs:=E 2) (gs:=rep (E 2) n) h;have ih:=G9 b b' n (o+9) (o'+9) q hq;exact zz132
theorem FN (b:Nat):∀(n o:Nat) (F:Fo),Fit E F (rep (E 2) n)->∀d∈aJ b o F,Fit E d.x (E 3)
 | 0,o,F,h,d,hd=>by rw [ai h] at hd;simp [aJ] at hd
 | n+1,o,F,h,d,hd=>by
  obtain ⟨x,q,rfl,hx,hq,hl⟩:=Fit.split (fs:=E 2) (gs:=rep (E 2) n) h;obtain ⟨au,ca,cn,cc,ck,y,rfl,-,hck,hy⟩:=aK hx;have hy':=hy;obtain ⟨k,nm,mn,la,ln,lc,lk,na,nn,nc,nk,ka,kn,kc,kk,aa,an,ac,ak,rfl,-⟩:=ag hy;simp only [Fo.app,aJ,List.mem_cons] at hd;rcases hd with rfl | hd
  .exact hy'
  .exact FN b n (o+9) q hq d hd
structure LA (q:Cq) (B0 V w1 wr:World) (n:Nat) (Q:List Nd) (sv:Value) (ab m:Nat) (ak:Fo) (j:Nat) (D D' R:Fo) (sv':Value):Prop where
 eq:D.app R=ak
 fd:Fit E D (rep (E 2) j)
 fr:Fit E R (rep (E 2) (m - j))
 sm:D'.aG D
 bd:(aJ 0 0 D').map Nd.x=(aJ 0 0 D).map Nd.x
 cs:CS q B0 wr (n+kE D) (Q++aJ ab 0 D') sv'
 at_:dF wr V.heap.size ab 0 D'
 cb:∀d∈aJ ab 0 D',bD wr d.x.vals d.b d.o
 nb:∀c∈iq D',w1.heap.size<=c∧c < wr.heap.size∧sv'.ownBlock≠some c
 nd:(iq D').Nodup
 ce:bD wr R.vals ab (j * 9)
 fz:∀i,wr.frozen? ⟨ab,i,none⟩=false
 kp:Kept (λc=>c≠ab∧c≠q.CB∧c≠q.TB∧sv.ownBlock≠some c) w1 wr
 nw:Nw sv sv' w1
 sb:R.av B0 (q.bs B0)
theorem Lt {au:ByteArray} {ca:Option Addr} {cn cc:Nat} {ck y R2:Fo} {W:World} {b o:Nat} (h:bD W ((Fo.v (.string au) (.s ca cn cc ck y)).app R2).vals b o) (hy:y.len=7):
  W.cell? ⟨b,o,none⟩=some (.string au)∧W.cell? ⟨b,o+1,none⟩=some (.slice ca cn cc)∧bD W y.vals b (o+2)∧bD W R2.vals b (o+9):=by
 simp only [Fo.app,Fo.vals,Fo.bX] at h;refine ⟨by simpa using h 0 _ rfl,h 1 _ rfl,λi v hv=>?_,λi v hv=>?_⟩
 .have:=h (i+2) v (by
   simp only [List.getElem?_cons_succ];rw [List.getElem?_append_left (List.getElem?_eq_some_iff.1 hv).1];exact hv)
  rwa [show o+(i+2)=o+2+i from by omega] at this
 .have:=h (i+9) v (by
   simp only [List.getElem?_cons_succ];rw [List.getElem?_append_right (by rw [Fo.aB,hy];omega),Fo.aB,hy];simpa using hv)
  rwa [show o+(i+9)=o+9+i from by omega] at this
theorem LA.round {q:Cq} {B0 V w1 wr:World} {n:Nat} {Q:List Nd} {sv sv':Value} {ab m:Nat} {ak:Fo} {j:Nat} {D D' R:Fo} (h:LA q B0 V w1 wr n Q sv ab m ak j D D' R sv') (hj:j < m) (hV:CS q B0 V n Q sv) (hw:V.heap.size<=w1.heap.size) (hab:V.heap.size<=ab∧ab < w1.heap.size) {tb:Nat} (htb:V.cell? ⟨tb,0,none⟩=some (.pointer (some ⟨q.CB,0,none⟩))) (hv1:Kept (λ_=>True) V w1) (htn:B0.heap.size<=tb∧sv.ownBlock≠some tb) (hwt:ak.wt<=1048576) (hn:n+kE ak < 10000000) (hQ:Q.length+m < 10000000):
  Calls Tryz.prog 94 #[.pointer (some ⟨ab,j * 9,none⟩),.bool true,.pointer (some ⟨tb,0,none⟩)] wr λe w2=>e=.returned (.tuple #[])∧Hid (∃D D' R sv',LA q B0 V w1 w2 n Q sv ab m ak (j+1) D D' R sv'):=by
 obtain ⟨⟨l1,l2⟩,l3,l4,l5,l6⟩:=h.cs.lt;have hB:=hV.vw;have zr:=h.kp.size;have hD':Fit E D' (rep (E 2) j):=h.sm.fit h.fd;obtain ⟨x,R2,rfl,hx,hR2,-⟩:∃x R2,R=x.app R2∧Fit E x (E 2)∧Fit E R2 (rep (E 2) (m - (j+1)))∧x.len=(E 2).length:=h.fr.next hj
 obtain ⟨au,ca,cn,cc,ck,y,rfl,-,hck,hy⟩:=aK hx;obtain ⟨L,hL1,hL2,hL3⟩:=strs cn ck hck;have hyl:y.len=7:=Fit.len hy;obtain ⟨c0,c1,c2,c3⟩:=Lt h.ce hyl;have hsb:=h.sb;have hwx:au.size+(cn+ck.wt)<=ak.wt∧kE D+(1+cn)<=kE ak:=by
  rw [<- h.eq];refine ⟨?_,?_⟩
  .simp only [Fo.dN,Fo.wt,bU]
   omega
  .rw [AV j D _ h.fd]
   obtain ⟨k',nm,mn,la,ln,lc,lk,na,nn,nc,nk,ka,kn,kc,kk,aa,an,ac,ak,rfl,-⟩:=ag hy;simp only [Fo.app,kE];omega
 have tbl:tb < V.heap.size:=block_lt_of_cell htb;have ht1:wr.cell? ⟨tb,0,none⟩=some (.pointer (some ⟨q.CB,0,none⟩)):=(h.kp.cell (p:=⟨tb,0,none⟩) (by show tb < _;omega) ⟨by show tb≠ab;omega,by show tb≠q.CB;omega,by show tb≠q.TB;omega,htn.2⟩).trans ((hv1.cell (p:=⟨tb,0,none⟩) tbl trivial).trans htb);have O0:sv'.ownBlock≠some ab:=h.nw.ne hab.2 (λe=>by have:=(hV.hi ab e).2;omega);have aab:sv'.ownBlock≠some tb:=h.nw.ne (by omega) htn.2;have hv:cn=0∨∃b oo,ca=some ⟨b,oo,none⟩∧q.bs B0 b∧bD B0 (L.map Value.string) b oo:=by
  rcases Nat.eq_zero_or_pos cn with e | e
  .exact .inl e
  .have hs:=hsb.left
   obtain ⟨b,oo,e1,e2,e3,-⟩:=hs.1.2.2 ((ib hck (by decide)).2 e);exact .inr ⟨b,oo,e1,e2,by rw [<- hL1];exact e3⟩
 refine (We (y:=y) h.cs ht1 ⟨htn.1,by omega,aab⟩ c0 c1 h.fz ⟨by omega,O0⟩ (by omega) hL2 (λx hx=>by have:=hL3 x hx;omega) (by omega) hv (by omega) (by rw [List.length_append,(CK ab j 0 D' hD').1];omega)).mono ?_;rintro e w2 ⟨rfl,iA,cc',CO,d1,d2,d3,d4,d5⟩;refine ⟨rfl,D.app (.v (.string au) (.s ca cn cc ck y)),D'.app (.v (.string au) (.s iA cn cc' ck y)),R2,CO,?_⟩;have z2:=d4.kp.size;have hf1:Fit E (.v (.string au) (.s ca cn cc ck y)) (E 2):=hx;have Wi:Fo.aG (.v (.string au) (.s iA cn cc' ck y)) (.v (.string au) (.s ca cn cc ck y)):=⟨rfl,rfl,Fo.aG.refl _,Fo.aG.refl _⟩
 have hin:=yz cn ck hck;obtain ⟨k',nm,mn,la,ln,lc,lk,na,nn,nc,nk,ka,kn,kc,kk,aa,an,ac,bG,hye,-⟩:=ag hy;have TV:iq (.v (.string au) (.s iA cn cc' ck y))=blk iA cn:=by
  rw [hye];simp only [iq,hin,List.append_nil];exact je (ib hck (by decide))
 have hrn:=d3.blk;have hso:∀c,c < wr.heap.size->sv'.ownBlock≠some c->CO.ownBlock≠some c:=λc hc hn=>d5.ne hc hn
 have hcb:∀d∈aJ ab 0 (D'.app (.v (.string au) (.s iA cn cc' ck y))),bD w2 d.x.vals d.b d.o:=λd hd=>by
  rw [sw ab j 0 D' _ hD'] at hd;rcases List.mem_append.1 hd with e | e
  .have hb:=wG j 0 D' hD' d e
   obtain ⟨k,hk⟩:=List.getElem?_of_mem e;obtain ⟨q1,q2⟩:=(CK ab j 0 D' hD').2 k d hk;have hkl:=(List.getElem?_eq_some_iff.1 hk).1;have Lp:Fit E d.x (E 3):=by
    have:=(FN ab j 0 D' hD') d e
    exact this
   intro i v hv;have hi:i < 7:=by have:=(List.getElem?_eq_some_iff.1 hv).1;rw [Fo.aB,Fit.len Lp] at this;exact this
   rw [q1,q2];refine (d4.ce _ (by omega)).trans ?_
   have:=h.cb d e i v hv
   rwa [q1,q2] at this
  .have e2:aJ ab (0+j * 9) (.v (.string au) (.s iA cn cc' ck y))=[⟨ab,j * 9+2,y⟩]:=by rw [hye,Nat.zero_add];simp [aJ]
   rw [e2,List.mem_singleton] at e;subst e;intro i v hv;have hi:i < 7:=by have:=(List.getElem?_eq_some_iff.1 hv).1;rw [Fo.aB,hyl] at this;exact this
   show w2.cell? ⟨ab,j * 9+2+i,none⟩=some v;exact (d4.ce _ (by omega)).trans (c2 i v hv)
 refine ⟨by rw [Fo.fw];exact h.eq,?_,hR2,Fo.sD h.sm Wi,by rw [sw 0 j 0 D' _ hD',sw 0 j 0 D _ h.fd,List.map_append,List.map_append,h.bd,hye];simp [aJ],?_,?_,hcb,?_,?_,?_,λi=>(d4.fz i).trans (h.fz i),?_,h.nw.trans d5 zr,hsb.right⟩
 .rw [<- Cc]
  exact h.fd.app hf1
 .rw [AV j D _ h.fd,sw ab j 0 D' _ hD']
  have e1:kE (.v (.string au) (.s ca cn cc ck y))=1+cn:=by rw [hye];simp [kE]
  have e2:aJ ab (0+j * 9) (.v (.string au) (.s iA cn cc' ck y))=[⟨ab,j * 9+2,y⟩]:=by rw [hye,Nat.zero_add];simp [aJ]
  rw [e1,e2,<- List.append_assoc,show n+(kE D+(1+cn))=n+kE D+1+cn from by omega];exact d1
 .refine AQ j 0 D' _ hD' (dF.keep z2 j 0 D' hD' (λi hi=>⟨d4.ce _ (by omega),d4.ce _ (by omega)⟩) (λc hc i=>?_) h.at_) ?_
  .obtain ⟨n1,n2,n3⟩:=h.nb c hc
   have hq:c≠ab∧c≠q.CB∧c≠q.TB∧sv'.ownBlock≠some c:=⟨by omega,by omega,by omega,n3⟩
   exact ⟨d4.kp.cell (p:=⟨c,i,none⟩) n2 hq,d4.kp.frozen (p:=⟨c,i,none⟩) n2 hq⟩
  .rw [hye,Nat.zero_add]
   simp only [dF];refine ⟨(d4.ce _ (by omega)).trans c0,d2,⟨d3.1,d3.2.1,λhl=>?_⟩,λc hc i=>?_,trivial⟩
   .obtain ⟨b,e,t,cl,-⟩:=d3.2.2 ((ib hck (by decide)).1 hl)
    exact ⟨b,0,e,⟨by have:=t.1;omega,t.2.1⟩,by rw [hL1];exact cl,pM cn ck hck⟩
   .rw [hin,List.append_nil,je (ib hck (by decide))] at hc
    exact (hrn c hc).2 i
 .intro c hc
  rw [AU j D' _ hD',TV] at hc;rcases List.mem_append.1 hc with e | e
  .obtain ⟨n1,n2,n3⟩:=h.nb c e
   exact ⟨n1,by omega,hso c n2 n3⟩
  .obtain ⟨⟨t1,t2,t3⟩,-⟩:=hrn c e
   exact ⟨by omega,t2,t3⟩
 .rw [AU j D' _ hD',TV]
  refine List.nodup_append.2 ⟨h.nd,?_,λa ha b hb e=>?_⟩
  .cases iA <;> cases cn <;> simp [blk]
  .subst e
   have:=(h.nb a ha).2.1
   have:=(hrn a hb).1.1
   omega
 .intro i v hv'
  have:=c3 i v hv'
  rw [d4.ce _ (by omega)]
  rwa [show j * 9+9+i=(j+1)* 9+i from by omega] at this
 .refine ⟨d4.kp.os.trans h.kp.os,d4.kp.tape.trans h.kp.tape,d4.kp.output.trans h.kp.output,Nat.le_trans zr z2,λc hc hs=>(d4.kp.block c (by omega) ⟨hs.1,hs.2.1,hs.2.2.1,h.nw.ne hc hs.2.2.2⟩).trans (h.kp.block c hc hs)⟩
end Go.Proofs.YthfnobboalhihaaGreat
