import Derived.Test.YthfnobboalhihaaGreatSa
import Derived.Deep.RegionHeld
set_option maxHeartbeats 4000000
set_option maxRecDepth 100000
namespace Go.Proofs.YthfnobboalhihaaGreat.C
open Go.RowKit Go.Shelf Go.Joins
attribute [local go_sem] Oper.semAt_some
theorem mW {F:Fence} {n:Nat} {P:Program} (w:World) {ops:Array Oper} {rest:List Oper} {o:Oper} {a:Act} {Q:Exit->Act->World->Prop}
  (hg:o.guard=none) (s x:Operand) (t:TypeId) (hop:o.op=Op.call {callee:=Callee.builtin Builtin.append,args:=#[s,x],argTypes:=#[t,t]})
  (base:Nat) (e:TypeId) (i:TypeInfo) (z:Value) (size bytes:Nat) (h1:P.underlying t=some (.slice e)) (h2:P.info? e=some i) (h3:i.zero=some z) (h4:i.size=size) (h5:i.bytes=bytes) (h6:z.cells.size=size) (h7:0 < size)
  (v:Value) (k:Nat) (xs:List Value) (hs:a.eval s=v) (hown:w.ownsRow base e size v k xs) (ad:Addr) (m c:Nat) (news:List Value) (hx:a.eval x=.slice (some ad) m c) (hn:news.length=m * size)
  (hc:∀j u,news[j]? =some u->w.cell? (ad.add j)=some u) (h1c:∀u∈news,u.oneCell'=true) (b1:k+m<=maxLen) (b2:(k+m)* bytes<=140737488355328) (b3:base<=w.heap.size)
  (hK:∀v' w',w'.ownsRow base e size v' (k+m) (xs++news)->w.grownBy w' v.ownBlock->(v'=.slice none 0 0↔v=.slice none 0 0∧m=0)->(v'.ownBlock=v.ownBlock∨v'.ownBlock=some w.heap.size)->wpListIn F n P ops Q rest (a.put o.dst v') w'):
  wpListIn F n P ops Q (o ::rest) a w:=by
 refine wpListIn_plain hg λK hK'=>?_
 obtain ⟨v',w',hrun,r1,r2,r3,r4⟩:=run_append_own_at (P:=P) w base t o.type e i z size bytes h1 h2 h3 h4 h5 h6 h7 v k xs hown ad m c news hn hc h1c b1 b2 b3;unfold Oper.wpIn;refine ⟨?_,?_⟩
 .simp [Oper.about,hop,resolve,Target.leads,Sem.run_pure]
 .rw [Oper.semAt_plain F _ _ (by rw [hop];intro c hc';cases hc')]
  simp [execOp,hop,resolve,invoke,builtin,hs,hx,hrun,Result.andThen];exact hK' _ _ (hK v' w' r1 r2 r3 r4)
def gq (L:List Nd):Nat:=(L.map (λd=>d.x.size)).sum
theorem Rn (b:Nat):∀(m:Nat) (F:Fo) (o:Nat),F.size<=m->gq (aS b o F)<=F.size:=by
 intro m
 induction m with
 | zero=>
  intro F o h
  cases F with
  | nil=>simp [aS,gq]
  | v _ _=>simp [Fo.size] at h
  | s _ _ _ _ _=>simp [Fo.size] at h
 | succ m ih=>
  intro F o h;unfold aS
  split
  .rename_i k nm mn a1 n1 c1 lk a2 n2 c2 nk a3 n3 c3 kk a4 n4 c4 ak r
   simp only [Fo.size] at h;have h3:=ih r (o+7) (by omega);simp only [gq,List.map_cons,List.sum_cons,Fo.size] at h3 ⊢;omega
  .exact Nat.zero_le _
theorem Ro (b:Nat):∀(m:Nat) (F:Fo) (o:Nat),F.size<=m->gq (aJ b o F)<=F.size:=by
 intro m
 induction m with
 | zero=>
  intro F o h
  cases F with
  | nil=>simp [aJ,gq]
  | v _ _=>simp [Fo.size] at h
  | s _ _ _ _ _=>simp [Fo.size] at h
 | succ m ih=>
  intro F o h;unfold aJ
  split
  .rename_i au a0 n0 c0 ck k nm mn a1 n1 c1 lk a2 n2 c2 nk a3 n3 c3 kk a4 n4 c4 ak r
   simp only [Fo.size] at h;have h3:=ih r (o+9) (by omega);simp only [gq,List.map_cons,List.sum_cons,Fo.size] at h3 ⊢;omega
  .exact Nat.zero_le _
theorem KZ (L M:List Nd):gq (L++M)=gq L+gq M:=by simp [gq]
theorem Nd.yT (d:Nd):(d.kids=[]∨gq d.kids < d.x.size):=by
 unfold Nd.kids
 split
 .rename_i k nm mn a1 n1 c1 lk a2 n2 c2 nk ka n3 c3 kk aa n4 c4 ak r he
  refine .inr ?_;rw [KZ];have h1:gq (eP ka kk)<=kk.size:=by
   unfold eP
   split
   .exact Rn _ kk.size kk _ (Nat.le_refl _)
   .exact Nat.zero_le _
  have h2:gq (fC aa ak)<=ak.size:=by
   unfold fC
   split
   .exact Ro _ ak.size ak _ (Nat.le_refl _)
   .exact Nat.zero_le _
  rw [he];simp only [Fo.size];omega
 .exact .inl rfl
theorem Mw {L:List Nd} {d:Nd} (h:d∈L):d.x.size<=gq L:=by
 induction L with
 | nil=>exact absurd h List.not_mem_nil
 | cons a l ih=>
  simp only [gq,List.map_cons,List.sum_cons];rcases List.mem_cons.1 h with rfl | h
  .omega
  .have:=ih h
   simp only [gq] at this;omega
def eH:List Nd->Nat->List (Nat×Nd)
 | [],_=>[]
 | x ::xs,d=>(d,x)::(eH x.kids (d+1)++eH xs d)
termination_by L _=>(gq L,L.length)
decreasing_by
 .have h:=x.yT
  rcases h with h | h
  .rw [h]
   by_cases hz:0 < gq (x ::xs)
   .exact Prod.Lex.left _ _ (by simpa [gq] using hz)
   .have e:gq (x ::xs)=0:=by omega
    rw [e];exact Prod.Lex.right _ (by simp)
  .refine Prod.Lex.left _ _ ?_
   simp only [gq,List.map_cons,List.sum_cons] at h ⊢;omega
 .by_cases hz:0 < x.x.size
  .refine Prod.Lex.left _ _ ?_
   simp only [gq,List.map_cons,List.sum_cons];omega
  .have e:gq (x ::xs)=gq xs:=by simp only [gq,List.map_cons,List.sum_cons];omega
   rw [e];exact Prod.Lex.right _ (by simp)
theorem iC (d:Nat):eH [] d=[]:=by rw [eH]
theorem iP (x:Nd) (xs:List Nd) (d:Nat):eH (x ::xs) d=(d,x)::(eH x.kids (d+1)++eH xs d):=by rw [eH]
structure ja where
 a:Option Addr
 cap:Nat
 L:List Nd
def ja.val (l:ja):Value:=.slice l.a l.L.length l.cap
def flat:List ja->List (Nat×Nd)
 | []=>[]
 | l ::st=>eH l.L (st.length+1)++flat st
structure ja.Ok (W:World) (O:Nat->Prop) (l:ja):Prop where
 le:l.L.length<=l.cap
 mx:l.cap<=maxLen
 at_:0 < l.L.length->∃b o,l.a=some ⟨b,o,none⟩∧O b∧∀i d,l.L[i]? =some d->W.cell? ⟨b,o+i,none⟩=some d.ptr
theorem ja.Ok.kept {A B:World} {O S:Nat->Prop} {l:ja} (h:l.Ok A O) (k:Kept S A B) (hO:∀b,O b->S b∧b < A.heap.size):l.Ok B O:=
 ⟨h.le,h.mx,λhl=>by
  obtain ⟨b,o,e,hb,hc⟩:=h.at_ hl;exact ⟨b,o,e,hb,λi d hd=>(k.cell (p:=⟨b,o+i,none⟩) (hO b hb).2 (hO b hb).1).trans (hc i d hd)⟩⟩
theorem ja.Ok.mono {A:World} {O P:Nat->Prop} {l:ja} (h:l.Ok A O) (hO:∀b,O b->P b):l.Ok A P:=
 ⟨h.le,h.mx,λhl=>by
  obtain ⟨b,o,e,hb,hc⟩:=h.at_ hl;exact ⟨b,o,e,hO b hb,hc⟩⟩
def qw (L:List (Nat×Nd)) (k:Nat):Array Value:=#[.int .i64 ((L.getD k (0,⟨0,0,.nil⟩)).1:Int),(L.getD k (0,⟨0,0,.nil⟩)).2.ptr]
structure nW (W:World) (B g cap:Nat) (st:List ja):Prop where
 own:W.ownsRow B 113 1 (.slice (some ⟨g,0,none⟩) st.length cap) st.length (st.map ja.val).reverse
theorem nW.top {W:World} {B g cap:Nat} {l:ja} {st:List ja} (h:nW W B g cap (l ::st)):W.cell? ⟨g,st.length,none⟩=some l.val:=by
 have:=h.own.cellAt st.length (by simp)
 rw [this]
 simp
theorem nW.pop {W:World} {B g cap:Nat} {l:ja} {st:List ja} (h:nW W B g cap (l ::st)):nW W B g cap st:=by
 obtain ⟨h1,h2⟩:=h.own;refine ⟨by simp,.inr ?_⟩;rcases h2 with ⟨h',_⟩ | ⟨g',cap',cur,h',hb,hg,hnc,hcm,hcs,htake⟩
 .simp at h'
 .simp only [Value.slice.injEq,Option.some.injEq,Addr.mk.injEq,and_true,true_and] at h'
  obtain ⟨rfl,rfl⟩:=h';refine ⟨g,cap,cur,rfl,hb,hg,by simp at hnc;omega,hcm,hcs,?_⟩;simp only [List.map_cons,List.reverse_cons,List.length_cons,Nat.mul_one] at htake ⊢
  have:=congrArg (List.take st.length) htake
  rw [List.take_take,Nat.min_eq_left (by omega)] at this;rw [this]
  simp
theorem nW.set {W:World} {B g cap:Nat} {l l':ja} {st:List ja} (h:nW W B g cap (l ::st)):nW (W.setCell ⟨g,st.length,none⟩ l'.val) B g cap (l' ::st):=by
 have:=(h.own.stored st.length l'.val).1
 refine ⟨?_⟩;simp only [List.length_cons,List.map_cons,List.reverse_cons] at this ⊢;have e:((st.map ja.val).reverse++[l.val]).set st.length l'.val=(st.map ja.val).reverse++[l'.val]:=by
  rw [List.set_append_right _ _ (by simp)]
  simp
 rw [e] at this;exact this
theorem nW.frozen {W:World} {B g cap:Nat} {st:List ja} (h:nW W B g cap st) (j:Nat):W.frozen? ⟨g,j,none⟩=false:=by
 rcases h.own.2 with ⟨h',_⟩ | ⟨g',cap',cur,h',hb,hg,hnc,hcm,hcs,htake⟩
 .simp at h'
 .simp only [Value.slice.injEq,Option.some.injEq,Addr.mk.injEq,and_true,true_and] at h'
  obtain ⟨rfl,rfl⟩:=h';simp [World.frozen?,hg]
theorem nW.nb {W:World} {B g cap:Nat} {st:List ja} (h:nW W B g cap st):NB W g:=by
 rcases h.own.2 with ⟨h',_⟩ | ⟨g',cap',cur,h',hb,hg,hnc,hcm,hcs,htake⟩
 .simp at h'
 .simp only [Value.slice.injEq,Option.some.injEq,Addr.mk.injEq,and_true,true_and] at h'
  obtain ⟨rfl,rfl⟩:=h';exact NB.cells hg (by decide)
theorem nW.lt {W:World} {B g cap:Nat} {st:List ja} (h:nW W B g cap st):B<=g∧g < W.heap.size:=h.own.lt g rfl
theorem nW.kept {A C:World} {B g cap:Nat} {st:List ja} {S:Nat->Prop} (h:nW A B g cap st) (k:Kept S A C) (hg:S g):nW C B g cap st:=
 ⟨aj h.own k (λc hc=>by have e:g=c:=Option.some.inj hc;exact e▸hg)⟩
theorem nW.room {W:World} {B g cap:Nat} {st:List ja} (h:nW W B g cap st):st.length<=cap∧cap<=maxLen:=by
 rcases h.own.2 with ⟨h',_⟩ | ⟨g',cap',cur,h',hb,hg,hnc,hcm,hcs,htake⟩
 .simp at h'
 .simp only [Value.slice.injEq,Option.some.injEq,Addr.mk.injEq,and_true,true_and] at h'
  obtain ⟨rfl,rfl⟩:=h';exact ⟨hnc,hcm⟩
theorem exists_least {p:Nat->Prop}:∀n,p n->∃m,p m∧∀k,p k->m<=k:=by
 intro n
 induction n using Nat.strongRecOn with
 | ind n ih=>
  intro h
  by_cases hx:∃k,k < n∧p k
  .obtain ⟨k,hk,hp⟩:=hx
   exact ih k hk hp
  .exact ⟨n,h,λk hk=>Decidable.byContradiction λhc=>hx ⟨k,by omega,hk⟩⟩
open Classical in
noncomputable def least (p:Nat->Prop):Nat:=if h:∃m,p m∧∀k,p k->m<=k then Classical.choose h else 0
theorem oK {p:Nat->Prop} (h:∃n,p n):p (least p):=by
 exact zz183
theorem least_le {p:Nat->Prop} {n:Nat} (h:p n):least p<=n:=by
 exact zz201
theorem Rp {W:World} {B:Nat} {a:Option Addr} {c:Nat} {L:List Nd} (h:W.ownsRow B 55 1 (.slice a L.length c) L.length (L.map Nd.ptr)):ja.Ok W (λb=>(Value.slice a L.length c).ownBlock=some b) ⟨a,c,L⟩∧∀b,(Value.slice a L.length c).ownBlock=some b->NB W b∧B<=b:=by
 rcases h.2 with ⟨h1,h2⟩ | ⟨g,cap,cur,h1,hb,hg,hnc,hcm,hcs,ht⟩
 .simp only [Value.slice.injEq] at h1
  obtain ⟨rfl,hl0,rfl⟩:=h1;refine ⟨⟨by show L.length<=_;omega,Nat.zero_le _,λhl=>?_⟩,λb hb=>by cases hb⟩;have hl':0 < L.length:=hl;omega
 .simp only [Value.slice.injEq,true_and] at h1
  obtain ⟨rfl,rfl⟩:=h1;refine ⟨⟨hnc,hcm,λ_=>⟨g,0,rfl,rfl,λi d hd=>?_⟩⟩,λb hb'=>?_⟩
  .have h2:=h.cells (g:=g) rfl i d.ptr (by rw [List.getElem?_map,hd];rfl)
   rwa [addr_add] at h2
  .have e:g=b:=Option.some.inj hb'
   subst e;exact ⟨NB.cells hg (by decide),hb⟩
theorem Tryz.info113:(Tryz.prog.info? 113).map (λi=>(i.zero,i.size,i.bytes))=some (some (.slice none 0 0),1,24):=by kernel_rfl
end Go.Proofs.YthfnobboalhihaaGreat.C
namespace Go.Proofs.YthfnobboalhihaaGreat
open Go.RowKit Go.Joins
theorem zz15 {P:Prop} (h:P:=by
 have Qg:Hid (st.length+1+1<=maxLen∧(st.length+1+1)* 24<=140737488355328):=by
  have h1:=hN;unfold Hid maxLen;omega
 have WR:Hid (∃kl,kl=x.kids.length):=⟨_,rfl⟩
 obtain ⟨kl,hkl⟩:=WR.out;have mJ:=hide hkl;have ou:Hid (W.heap.size<=W3.heap.size):=F9;clear jV Je hx3 F9 hkl;simp only [Nd.ptr] at HC
 gi_wp2_with (first
  | (refine ⟨trivial,?_⟩;gi_at_call 64;refine (callsIn_wide.2 HC.out).mono ?_;rintro e W4 ⟨ka,kc,rfl,uP,b4⟩;rw [<- mJ.out];have sV:=hide b4;have Ja:=hide uP;clear b4 uP)
  | (gi_at_builtin;refine mW _ rfl _ _ 180 rfl W.heap.size 113 i0 (.slice none 0 0) 1 24 Tryz.underlying180 hi0 hz0 hz1 hz2 rfl (by decide) _ _ _ rfl ((HOW.out W4 sV.out).alloc _) ⟨W4.heap.size,0,none⟩ 1 1 [.slice ka kl kc] rfl rfl (cell_one_new W4 (.slice ka kl kc) 113) (by simp [Value.oneCell']) Qg.out.1 Qg.out.2 (by have:=ou.out;have:=sV.out.size;simp;omega) ?_;intro v' w1 hown' hgrow _ hat;obtain ⟨g',cap',rfl⟩:=ownsRow_succ hown'))
 rw [mJ.out] at hown';go_roundw
 case rel=>exact ⟨_,FIN.out _ W3 W4 w1 _ ka kc g' cap' uB.out Qf.out Dj.out sV.out Ja.out hown' hgrow hat⟩
 case measure=>
  rw [HM.out];exact Nat.lt_of_le_of_lt (least_le (FIN.out _ W3 W4 w1 _ ka kc g' cap' uB.out Qf.out Dj.out sV.out Ja.out hown' hgrow hat)) ES.out):P:=h
theorem zz194 {P:Prop} (h:P:=by
 refine bodyPost_ret (results_none rfl _ _ _) rfl ?_;exact ⟨⟨_,rfl⟩,.inr ⟨i,O',by omega,hj'⟩⟩):P:=h
end Go.Proofs.YthfnobboalhihaaGreat
namespace Go.Proofs.YthfnobboalhihaaGreat.C
open Go.RowKit Go.Shelf Go.Joins
attribute [local go_sem] Oper.semAt_some
def FY (fb:Nat) (J:Nat->(Nat->Prop)->World->Prop) (LL:List (Nat×Nd)) (n0 B:Nat) (v:Value) (wr:World) (m:Nat):Prop:=
 ∃(st:List ja) (O:Nat->Prop) (i g c:Nat),v=.slice (some ⟨g,0,none⟩) st.length c∧m=2 * (flat st).length+st.length∧nW wr B g c st∧O g∧flat st=LL.drop i∧i<=LL.length∧
   st.length<=i+1∧J i O wr∧(∀l∈st,l.Ok wr (λb=>O b∧b≠g)∧(∀d∈l.L,d.Ok wr (λb=>b < n0))∧gq l.L<=16777216)∧B<=wr.heap.size∧(∀b,O b->NB wr b∧B<=b)∧wr.cell? ⟨fb,0,none⟩=some (.func (.func 64) #[] #[])
structure LK (fb n0 B g c:Nat) (O:Nat->Prop) (st:List ja) (wr:World):Prop where
 lY:nW wr B g c st
 og:O g
 lev:∀l∈st,l.Ok wr (λb=>O b∧b≠g)∧(∀d∈l.L,d.Ok wr (λb=>b < n0))∧gq l.L<=16777216
 ge:B<=wr.heap.size
 nb:∀b,O b->NB wr b∧B<=b
 fn:wr.cell? ⟨fb,0,none⟩=some (.func (.func 64) #[] #[])
theorem LK.kept {fb n0 B g c:Nat} {O S:Nat->Prop} {st:List ja} {A C:World} (h:LK fb n0 B g c O st A) (k:Kept S A C) (hO:∀b,O b->S b) (hn:∀b,b < n0->S b) (hB:n0<=B) (hf:S fb):LK fb n0 B g c O st C:=by
 have hz:=k.size;have hg:=h.ge;refine ⟨h.lY.kept k (hO g h.og),h.og,λl hl=>?_,by omega,λb hb=>⟨(h.nb b hb).1.kept k (hO b hb),(h.nb b hb).2⟩,(k.cell (p:=⟨fb,0,none⟩) (block_lt_of_cell h.fn) hf).trans h.fn⟩;obtain ⟨h1,h2,h3⟩:=h.lev l hl;exact ⟨h1.kept k (λb hb=>⟨hO b hb.1,(h.nb b hb.1).1.lt⟩),λd hd=>(h2 d hd).kept k (λb hb=>⟨hn b hb,by omega⟩),h3⟩
theorem zQ (n:Nat) (hn:1<=n) (rb n0:Nat) (d:Nd) (w:World) (fb:Nat) (x8:w.cell? ⟨fb,0,none⟩=some (.func (.func 64) #[] #[])) (hn0:n0<=w.heap.size)
  (hrb:w.cell? ⟨rb,0,none⟩=some d.ptr) (hd:d.Ok w (λb=>b < n0)) (hsz:d.x.size<=16777216) (N:Nat) (hN:(eH [d] 1).length=N) (hNl:N<=16777216):
  Seq (P:=Tryz.prog) Fence.wide n 99 #[.pointer (some ⟨rb,0,none⟩),.pointer (some ⟨fb,0,none⟩)] (qw (eH [d] 1)) N (λb=>b < n0∨b=fb) w:=by
 intro l J Jx W hW hJ hJx hY h0;have aaF:fb < w.heap.size:=block_lt_of_cell x8;have aaG:rb < w.heap.size:=block_lt_of_cell hrb;have hfW:=(hW.cell (p:=⟨fb,0,none⟩) aaF).trans x8;have hrW:=(hW.cell (p:=⟨rb,0,none⟩) aaG).trans hrb;have hzW:=hW.size;have hdW:=hd.kept (Kept.of_below (S:=λb=>b < n0) hW (λb _ hb=>by omega)) (λb hb=>⟨hb,by omega⟩);simp only [Nd.ptr] at hrW;refine callsIn_of_wp Tryz.func99 rfl trivial ?_ rfl;simp only [Tryz.ntmps99,List.size_toArray,List.length_cons,List.length_nil,Nat.reduceAdd,Nat.reduceSub,Array.replicate_succ,Array.replicate_zero,List.push_toArray,List.append_toArray,List.nil_append,List.cons_append]
 gi_wp2_with fail
 obtain ⟨W0,hW0⟩:∃W0,(W.alloc (.cells #[.pointer (some ⟨d.b,d.o,none⟩)] 55)).alloc (.cells #[.slice (some ⟨W.heap.size,0,none⟩) 1 1] 113)=W0:=⟨_,rfl⟩
 have hk0:∀S,Kept S W W0:=λS=>by rw [<- hW0];exact (Kept.alloc _ _ _).trans (Kept.alloc _ _ _)
 have hz0:W0.heap.size=W.heap.size+1+1:=by rw [<- hW0];simp
 have hq:W0.cell? ⟨W.heap.size,0,none⟩=some d.ptr:=by
  rw [<- hW0];refine ((Kept.alloc (λ_=>True) _ _).cell (p:=⟨W.heap.size,0,none⟩) (by simp) trivial).trans ?_;simp [Nd.ptr]
 have hst:nW W0 W.heap.size (W.heap.size+1) 1 [⟨some ⟨W.heap.size,0,none⟩,1,[d]⟩]:=by
  rw [<- hW0]
  have:=World.ownsRow_lit (base:=W.heap.size) (e:=113) (size:=1) (W.alloc (.cells #[.pointer (some ⟨d.b,d.o,none⟩)] 55)) #[.slice (some ⟨W.heap.size,0,none⟩) 1 1] 1 (by simp) (by simp [maxLen]) rfl
  rw [World.size_alloc] at this;exact ⟨this⟩
 have hok:ja.Ok W0 (λb=>(b=W.heap.size∨b=W.heap.size+1)∧b≠W.heap.size+1) ⟨some ⟨W.heap.size,0,none⟩,1,[d]⟩:=by
  refine ⟨Nat.le_refl _,by simp [maxLen],λ_=>⟨_,_,rfl,⟨.inl rfl,by omega⟩,λi y hy=>?_⟩⟩
  cases i with
  | zero=>
   simp only [List.getElem?_cons_zero,Option.some.injEq] at hy;subst hy;exact hq
  | succ i=>simp at hy
 have hJ0:J 0 (λb=>b=W.heap.size∨b=W.heap.size+1) W0:=hJ 0 _ _ _ _ h0 (hk0 _) (λb x=>.inr (by omega));have aaH:∀b,(b=W.heap.size∨b=W.heap.size+1)->NB W0 b∧W.heap.size<=b:=by
  rintro b (rfl | rfl)
  .exact ⟨by rw [<- hW0];exact (NB.new _ _ _ (by decide)).kept (Kept.alloc (λ_=>True) _ _) trivial,Nat.le_refl _⟩
  .refine ⟨?_,by omega⟩
   rw [<- hW0]
   have:=NB.new (W.alloc (.cells #[.pointer (some ⟨d.b,d.o,none⟩)] 55)) #[.slice (some ⟨W.heap.size,0,none⟩) 1 1] 113 (by decide)
   rwa [World.size_alloc] at this
 have Jd:flat [⟨some ⟨W.heap.size,0,none⟩,1,[d]⟩]=eH [d] 1:=by simp [flat]
 generalize eH [d] 1=LL at Jd hN hY ⊢;rw [hW0];clear hW0;have aaI:n0<=W.heap.size:=Nat.le_trans hn0 hzW
 gi_loopw [4] (λv wr=>∃m,FY fb J LL n0 W.heap.size v wr m) (λv wr=>least (FY fb J LL n0 W.heap.size v wr))
 case atStart=>exact ⟨_,_,_,0,W.heap.size+1,1,rfl,rfl,hst,.inr rfl,by rw [Jd];rfl,Nat.zero_le _,by simp,hJ0,λL hL=>by
  rw [List.mem_singleton] at hL;subst hL;refine ⟨hok,λy hy=>?_,by simp [gq];omega⟩;rw [List.mem_singleton] at hy;subst hy;exact hdW.kept (hk0 (λ_=>True)) (λb hb=>⟨trivial,by omega⟩),by omega,aaH,((hk0 (λ_=>True)).cell (p:=⟨fb,0,none⟩) (by show fb < W.heap.size;omega) trivial).trans hfW⟩
 case round=>
  have hmin:=oK hrel;clear hrel;obtain ⟨st,O,i,g,c,hv,hMe,hst',SQ,hfl,hi,aaJ,SS,Ki,hzr,hOb,hfc⟩:=hmin;subst hv;have HM:Hid (least (FY fb J LL n0 W.heap.size (.slice (some ⟨g,0,none⟩) st.length c) wr)=2 * (flat st).length+st.length):=hMe;clear hst hok hJ0 Jd hq hk0 hz0 hMe;have hroom:=hst'.room;have hmx:maxLen=9223372036854775807:=rfl
  cases st with
  | nil=>
   simp only [List.length_nil]
   gi_wp2_with fail
   go_end0;have e:i=LL.length:=by
    have:=congrArg List.length hfl
    simp [flat] at this;omega
   exact ⟨⟨_,rfl⟩,.inl ⟨O,by rw [<- hN,<- e];exact SS⟩⟩
  | cons L st=>
   simp only [List.length_cons] at hroom aaJ HM ⊢;have htop:=hst'.top;obtain ⟨la,lc,lL⟩:=L;simp only [ja.val] at htop;have aaK:=Ki _ (List.mem_cons_self)
   cases lL with
   | nil=>
    simp only [List.length_nil] at htop
    gi_wp2_with fail
    go_roundw
    case rel=>exact ⟨_,st,O,i,g,c,rfl,rfl,hst'.pop,SQ,by rw [<- hfl];simp [flat,iC],hi,by omega,SS,λL hL=>Ki L (List.mem_cons_of_mem _ hL),hzr,hOb,hfc⟩
    case measure=>
     have h1:FY fb J LL n0 W.heap.size (.slice (some ⟨g,0,none⟩) st.length c) wr (2 * (flat st).length+st.length):=
      ⟨st,O,i,g,c,rfl,rfl,hst'.pop,SQ,by rw [<- hfl];simp [flat,iC],hi,by omega,SS,λL hL=>Ki L (List.mem_cons_of_mem _ hL),hzr,hOb,hfc⟩
     rw [HM.out]
     have:=least_le h1
     simp only [flat,iC,List.nil_append] at this ⊢;omega
   | cons x r=>
    obtain ⟨⟨o1,o2,o3⟩,o4,o5⟩:=aaK;simp only [List.length_cons] at o1 htop;obtain ⟨b,o,e,⟨hb1,hbg⟩,hcc⟩:=o3 (by simp);simp only at e;subst e;have p0:wr.cell? ⟨b,o,none⟩=some (.pointer (some ⟨x.b,x.o,none⟩)):=by simpa [Nd.ptr] using hcc 0 x rfl
    have vE:=o4 x List.mem_cons_self;have xJ:x.x.size<=16777216:=Nat.le_trans (Mw (L:=x ::r) List.mem_cons_self) o5;have hfr:=hst'.frozen st.length;have hgl:=hst'.lt;have hkz:gq x.kids<=16777216:=by
     rcases x.yT with h | h
     .rw [h];simp [gq]
     .omega
    have hrz:gq r<=16777216:=by
     simp only [gq,List.map_cons,List.sum_cons] at o5 ⊢;omega
    have hil:i < LL.length:=by
     have:=congrArg List.length hfl
     simp [flat,iP] at this;omega
    have IX:LL.getD i (0,⟨0,0,.nil⟩)=(st.length+1,x):=by
     have:LL[i]? =(LL.drop i)[0]? :=by simp
     rw [List.getD_eq_getElem?_getD,this,<- hfl];simp [flat,iP]
    have hLe:qw LL i=#[.int .i64 ((st.length:Int)+1),.pointer (some ⟨x.b,x.o,none⟩)]:=by
     unfold qw;rw [IX];simp [Nd.ptr]
    have aaL:eH x.kids (st.length+1+1)++(eH r (st.length+1)++flat st)=LL.drop (i+1):=by
     rw [<- List.drop_drop (i:=1) (j:=i),<- hfl];simp [flat,iP]
    have SV:∀(na:Option Addr),(0 < r.length->na=some ⟨b,o+1,none⟩)->
      YieldAt Fence.wide (n - 1) Tryz.prog l #[.int .i64 ((st.length:Int)+1),.pointer (some ⟨x.b,x.o,none⟩)] (wr.setCell ⟨g,st.length,none⟩ (.slice na r.length (lc - 1)))
       λe W'=>(e=.returned (.bool true)∧LK fb n0 W.heap.size g c O (⟨na,lc - 1,r⟩::st) W'∧J (i+1) O W'∧x.Ok W' (λb=>b < n0))∨(e=.returned (.bool false)∧∃O,Jx i O W'):=by
     intro na hna;obtain ⟨w2,hw2⟩:∃w2,wr.setCell ⟨g,st.length,none⟩ (.slice na r.length (lc - 1))=w2:=⟨_,rfl⟩
     have hkg:Kept (λy=>y≠g) wr w2:=by rw [<- hw2];exact Kept.setCell _ _ _ _ (by simp)
     have hz2:w2.heap.size=wr.heap.size:=by rw [<- hw2];simp [World.setCell]
     have hS2:nW w2 W.heap.size g c (⟨na,lc - 1,r⟩::st):=by rw [<- hw2];exact hst'.set (l':=⟨na,lc - 1,r⟩)
     have hJ2:J i O w2:=hJ i O _ wr w2 SS (hkg.mono (λb _ h e=>h (e▸SQ))) (λb h=>.inl h);have Qb:∀y,y < n0->y≠g∧y < wr.heap.size:=λy hy=>⟨by omega,by omega⟩
     have hlv:∀l'∈((⟨na,lc - 1,r⟩:ja)::st),l'.Ok w2 (λb=>O b∧b≠g)∧(∀d∈l'.L,d.Ok w2 (λb=>b < n0))∧gq l'.L<=16777216:=by
      intro l' hl';rcases List.mem_cons.1 hl' with rfl | hl'
      .refine ⟨⟨by show r.length<=lc - 1;omega,by show lc - 1<=maxLen;simp only at o2;omega,λhl=>⟨b,o+1,hna hl,⟨hb1,hbg⟩,λj y hy=>?_⟩⟩,λy hy=>(o4 y (List.mem_cons_of_mem _ hy)).kept hkg Qb,hrz⟩
       have h1:=hcc (j+1) y (by simpa using hy);have e2:o+(j+1)=o+1+j:=by omega
       rw [e2] at h1;exact (hkg.cell (p:=⟨b,o+1+j,none⟩) (hOb b hb1).1.lt hbg).trans h1
      .obtain ⟨g1,g2,g3⟩:=Ki l' (List.mem_cons_of_mem _ hl')
       exact ⟨g1.kept hkg (λy hy=>⟨hy.2,(hOb y hy.1).1.lt⟩),λy hy=>(g2 y hy).kept hkg Qb,g3⟩
     have Kg:∀y,O y->NB w2 y∧W.heap.size<=y:=λy hy=>by
      refine ⟨?_,(hOb y hy).2⟩
      by_cases e:y=g
      .subst e;exact hS2.nb
      .exact (hOb y hy).1.kept hkg e
     have hSI:LK fb n0 W.heap.size g c O (⟨na,lc - 1,r⟩::st) w2:=⟨hS2,SQ,hlv,by omega,Kg,(hkg.cell (p:=⟨fb,0,none⟩) (block_lt_of_cell hfc) (by show fb≠g;omega)).trans hfc⟩
     obtain ⟨fn,tmps,assign,body,hy,hR⟩:=hY i O w2 (by omega) (λy hy=>(Kg y hy).1) hJ2;rw [hLe] at hy;rw [hw2];refine ⟨fn,tmps,assign,body,hy,hR.mono ?_⟩;rintro e W' ⟨hK,(⟨rfl,hj⟩ | ⟨rfl,hj⟩)⟩
     .exact .inl ⟨rfl,hSI.kept hK (λy hy=>.inl hy) (λy hy=>.inr (.inl hy)) aaI (.inr (.inr rfl)),hj,(vE.kept hkg Qb).kept hK (λy hy=>⟨.inr (.inl hy),by omega⟩)⟩
     .exact .inr ⟨rfl,_,hj⟩
    have fin:∀(na:Option Addr) (W3 W4 w1:World) (X:Obj) (ka:Option Addr) (kc g' cap':Nat),LK fb n0 W.heap.size g c O (⟨na,lc - 1,r⟩::st) W3->J (i+1) O W3->x.Ok W3 (λb=>b < n0)->Below W3.heap.size W3 W4->W4.ownsRow W3.heap.size 55 1 (.slice ka x.kids.length kc) x.kids.length (x.kids.map Nd.ptr)->
      w1.ownsRow W.heap.size 113 1 (.slice (some ⟨g',0,none⟩) (st.length+1+1) cap') (st.length+1+1) (((⟨na,lc - 1,r⟩::st:List ja).map ja.val).reverse++[.slice ka x.kids.length kc])->
      (W4.alloc X).grownBy w1 (some g)->(some g'=some g∨some g'=some (W4.alloc X).heap.size)->
      FY fb J LL n0 W.heap.size (.slice (some ⟨g',0,none⟩) (st.length+1+1) cap') w1 (2 * (eH x.kids (st.length+1+1)++(eH r (st.length+1)++flat st)).length+(st.length+1+1)):=by
     intro na W3 W4 w1 X ka kc g' cap' jV Je hx3 b4 uP hown hgrow hat;have z4:=b4.size;have hg3:=jV.lY.lt;obtain ⟨lv4,FZ⟩:=Rp uP;have k4:Kept (λ_=>True) W3 W4:=kt b4;have k5:Kept (λy=>y≠g) W4 w1:=(Kept.alloc _ _ _).trans (Kept.grown hgrow (λy e h=>by cases e;exact h rfl));have z5:=k5.size;have hX:∀y,(O y∧y≠g)->y≠g∧y < W4.heap.size:=λy hy=>⟨hy.2,by have:=(jV.nb y hy.1).1.lt;omega⟩
     have hN:∀y,y < n0->y≠g∧y < W4.heap.size:=λy hy=>⟨by omega,by have:=jV.ge;omega⟩
     have aby:g' < w1.heap.size:=(World.ownsRow.lt hown g' rfl).2;have hgB:W.heap.size<=g':=(World.ownsRow.lt hown g' rfl).1;have hgo:g'=g∨W4.heap.size<=g':=by
      rcases hat with e | e
      .cases e;exact .inl rfl
      .simp only [World.size_alloc,Option.some.injEq] at e
       exact .inr (by omega)
     have hjx:J (i+1) (λy=>(O y∧y≠g)∨(Value.slice ka x.kids.length kc).ownBlock=some y∨y=g') w1:=by
      refine hJ _ _ _ _ _ Je ((k4.mono (λ_ _ _=>trivial)).trans (k5.mono (λy _ h e=>h (e▸jV.og)))) (λy hy=>?_);rcases hy with hy | hy | hy
      .exact .inl hy.1
      .exact .inr (by have:=(FZ y hy).2;omega)
      .rcases hgo with e | e
       .rw [hy,e];exact .inl jV.og
       .exact .inr (by omega)
     refine ⟨⟨ka,kc,x.kids⟩::⟨na,lc - 1,r⟩::st,λy=>(O y∧y≠g)∨(Value.slice ka x.kids.length kc).ownBlock=some y∨y=g',i+1,g',cap',rfl,rfl,⟨?_⟩,.inr (.inr rfl),aaL,by omega,by simp only [List.length_cons];omega,hjx,?_,by have:=jV.ge;omega,?_,?_⟩
     .simp only [List.length_cons,List.map_cons,List.reverse_cons,List.append_assoc] at hown ⊢
      exact hown
     .intro l' hl'
      rcases List.mem_cons.1 hl' with rfl | hl'
      .refine ⟨(lv4.kept k5 (λy hy=>⟨?_,(FZ y hy).1.lt⟩)).mono (λy hy=>⟨.inr (.inl hy),?_⟩),λy hy=>((x.Ed hx3 y hy).kept k4 (λz hz=>⟨trivial,by have:=jV.ge;omega⟩)).kept k5 hN,hkz⟩
       .have:=(FZ y hy).2
        show y≠g;omega
       .have h1:=(FZ y hy).2
        have h2:=(FZ y hy).1.lt;rcases hgo with e | e
        .omega
        .omega
      .obtain ⟨g1,g2,g3⟩:=jV.lev l' hl'
       refine ⟨((g1.kept k4 (λy hy=>⟨trivial,(jV.nb y hy.1).1.lt⟩)).kept k5 hX).mono (λy hy=>⟨.inl hy,?_⟩),λy hy=>((g2 y hy).kept k4 (λz hz=>⟨trivial,by have:=jV.ge;omega⟩)).kept k5 hN,g3⟩
       have:=(jV.nb y hy.1).1.lt
       rcases hgo with e | e
       .rw [e];exact hy.2
       .omega
     .intro y hy
      rcases hy with hy | hy | hy
      .exact ⟨((jV.nb y hy.1).1.kept k4 trivial).kept k5 hy.2,(jV.nb y hy.1).2⟩
      .refine ⟨(FZ y hy).1.kept k5 ?_,by have:=(FZ y hy).2;have:=jV.ge;omega⟩
       have:=(FZ y hy).2
       show y≠g;omega
      .subst hy
       refine ⟨?_,hgB⟩;rcases hown.2 with ⟨h',_⟩ | ⟨g2,cap2,cur,h',hb',hg2,hr2⟩
       .simp at h'
       .simp only [Value.slice.injEq,Option.some.injEq,Addr.mk.injEq,and_true,true_and] at h'
        obtain ⟨rfl,rfl⟩:=h';exact NB.cells hg2 (by decide)
     .exact (k5.cell (p:=⟨fb,0,none⟩) (by have:=block_lt_of_cell jV.fn;show fb < _;omega) (by show fb≠g;omega)).trans ((k4.cell (p:=⟨fb,0,none⟩) (block_lt_of_cell jV.fn) trivial).trans jV.fn)
    have Qe:2 * (eH x.kids (st.length+1+1)++(eH r (st.length+1)++flat st)).length+(st.length+1+1) < 2 * (flat (⟨some ⟨b,o,none⟩,lc,x ::r⟩::st)).length+(st.length+1):=by
     simp only [flat,iP,List.length_cons,List.length_append];omega
    have FIN:=hide fin;have ES:=hide Qe;clear fin Qe;have aa7:st.length+1<=16777217:=by omega
    by_cases hlc:lc=1
    .subst hlc
     obtain ⟨fn,tmps,assign,body,hy,hR⟩:=SV (some ⟨b,o,none⟩) (λh=>by omega);have hr0:r=[]:=List.length_eq_zero_iff.1 (by omega);subst hr0;simp only [Nat.sub_self,List.length_nil] at hy htop;clear o1 o3;clear SV
     gi_wp2_with fail
     refine hR.mono ?_;rintro e W3 (⟨rfl,jV,Je,hx3⟩ | ⟨rfl,O',hj'⟩)
     .have hf3:=jV.fn
      have hl3:=jV.lY.lt;have F9:=jV.ge;obtain ⟨i0,hi0,hz0,hz1,hz2⟩:=info_parts Tryz.info113;have HC:=hide (vg x W3 ⟨hx3.fit,hx3.ae,hx3.subs.mono (λy hy=>by omega),by have:=hx3.at_;omega⟩ xJ);have uB:=hide jV;have Qf:=hide Je;have Dj:=hide hx3;have HOW:Hid (∀W4,Below W3.heap.size W3 W4->W4.ownsRow W.heap.size 113 1 (.slice (some ⟨g,0,none⟩) (st.length+1) c) (st.length+1) (((⟨some ⟨b,o,none⟩,1 - 1,[]⟩::st:List ja).map ja.val).reverse)):=λW4 b4=>aj jV.lY.own (kt (S:=λ_=>True) b4) (λ_ _=>trivial)
      exact zz15
     .gi_wp2_with fail
      exact zz194
    .obtain ⟨fn,tmps,assign,body,hy,hR⟩:=SV (some ⟨b,o+1,none⟩) (λ_=>rfl)
     clear SV
     gi_wp2_with fail
     refine hR.mono ?_;rintro e W3 (⟨rfl,jV,Je,hx3⟩ | ⟨rfl,O',hj'⟩)
     .have hf3:=jV.fn
      have hl3:=jV.lY.lt;have F9:=jV.ge;obtain ⟨i0,hi0,hz0,hz1,hz2⟩:=info_parts Tryz.info113;have HC:=hide (vg x W3 ⟨hx3.fit,hx3.ae,hx3.subs.mono (λy hy=>by omega),by have:=hx3.at_;omega⟩ xJ);have uB:=hide jV;have Qf:=hide Je;have Dj:=hide hx3;have HOW:Hid (∀W4,Below W3.heap.size W3 W4->W4.ownsRow W.heap.size 113 1 (.slice (some ⟨g,0,none⟩) (st.length+1) c) (st.length+1) (((⟨some ⟨b,o+1,none⟩,lc - 1,r⟩::st:List ja).map ja.val).reverse)):=λW4 b4=>aj jV.lY.own (kt (S:=λ_=>True) b4) (λ_ _=>trivial)
      exact zz15
     .gi_wp2_with fail
      exact zz194
end Go.Proofs.YthfnobboalhihaaGreat.C
namespace Go.Proofs.YthfnobboalhihaaGreat
open Go.RowKit Go.Joins
theorem zz195 {P:Prop} (h:P:=by
 obtain ⟨k,nm,mn,la,ln,lc,lk,na,nn,nc,nk,ka,kn,kc,kk,aa,an,ac,ak,rfl,-⟩:=ag hx;simp only [Fo.app,aS]):P:=h
end Go.Proofs.YthfnobboalhihaaGreat
namespace Go.Proofs.YthfnobboalhihaaGreat.C
open Go.RowKit Go.Joins
theorem BO:∀(A B:List Nd) (d:Nat),eH (A++B) d=eH A d++eH B d
 | [],B,d=>by rw [iC];rfl
 | x ::A,B,d=>by rw [List.cons_append,iP,iP,BO A B d];simp
def Tm.GJ:Tm->Nat
 | .nil=>0
 | .nd h ks al _=>ks.len+al.len+(if h.k=6∨h.k=7 then h.ns.length else 0)+al.an
def Tm.cw:Tm->Nat
 | .nil=>0
 | .nd h ks al r=>(ks.len+al.len+(if h.k=6∨h.k=7 then h.ns.length else 0)+al.an)+ks.cw+al.cw+r.cw
def Tm.top:Tm->Prop
 | .nil=>True
 | .nd h ks al _=>fA h ks.len al
theorem Cy:∀t:Tm,t.len+t.cw<=t.cnt
 | .nil=>Nat.le_refl _
 | .nd h ks al r=>by
  have h1:=Cy ks;have h2:=Cy al;have h3:=Cy r;simp only [Tm.len,Tm.cw,Tm.cnt]
  split <;> omega
theorem Cz:∀t:Tm,t.good->t.len+t.cw=t.cnt
 | .nil,_=>rfl
 | .nd h ks al r,⟨g1,g2,g3,g4⟩=>by
  have h1:=Cz ks g2;have h2:=Cz al g3;have h3:=Cz r g4;simp only [Tm.len,Tm.cw,Tm.cnt]
  split
  .omega
  .rename_i hk
   have h4:h.ns=[]:=by
    rcases g1.2.2.1 with e | e | e
    .exact absurd (.inl e) hk
    .exact absurd (.inr e) hk
    .exact e
   rw [h4];simp only [List.length_nil];omega
structure PF (L:List (Nat×Nd)) (t:Tm) (d sz:Nat):Prop where
 sum:(L.map (λe=>(di e.2.x).GJ)).sum=t.cw
 Jm:d+t.dep<=1001->∀e∈L,e.1<=1000
 Jn:d<=1001->(∀e∈L,e.1<=1000)->d+t.dep<=1001
 good:(∀e∈L,(di e.2.x).top)↔t.good
 len:L.length<=sz
theorem PF.nil (d sz:Nat):PF [] .nil d sz:=⟨rfl,λ_ _ he=>absurd he List.not_mem_nil,λh _=>h,⟨λ_=>trivial,λ_ _ he=>absurd he List.not_mem_nil⟩,Nat.zero_le _⟩
theorem PF.node {A B R:List (Nat×Nd)} {h h':Hd} {ks al r:Tm} {d s1 s2 s3 sz:Nat} {n:Nd} (hA:PF A ks (d+1) s1) (hB:PF B al (d+1) s2) (hR:PF R r d s3) (hn:di n.x=.nd h' ks al .nil) (e1:h'.k=h.k) (e2:h'.nm=h.nm) (e3:h'.mn=h.mn) (e4:h'.lm=h.lm) (e5:h'.ns=h.ns) (hs:1+s1+s2+s3<=sz):
  PF ((d,n)::((A++B)++R)) (.nd h ks al r) d sz:=by
 refine ⟨?_,λhd e he=>?_,λhd he=>?_,?_,?_⟩
 .rw [List.map_cons,List.map_append,List.map_append,List.sum_cons,List.sum_append,List.sum_append,hA.sum,hB.sum,hR.sum,hn]
  simp only [Tm.GJ,Tm.cw,e1,e5];omega
 .simp only [Tm.dep] at hd
  rcases List.mem_cons.1 he with rfl | he
  .show d<=1000
   omega
  .rcases List.mem_append.1 he with he | he
   .rcases List.mem_append.1 he with he | he
    .exact hA.Jm (by omega) e he
    .exact hB.Jm (by omega) e he
   .exact hR.Jm (by omega) e he
 .have h0:d<=1000:=he (d,n) List.mem_cons_self
  have h1:=hA.Jn (by omega) (λe h=>he e (List.mem_cons_of_mem _ (List.mem_append_left _ (List.mem_append_left _ h))));have h2:=hB.Jn (by omega) (λe h=>he e (List.mem_cons_of_mem _ (List.mem_append_left _ (List.mem_append_right _ h))));have h3:=hR.Jn hd (λe h=>he e (List.mem_cons_of_mem _ (List.mem_append_right _ h)));simp only [Tm.dep];omega
 .have ht:(di n.x).top↔fA h ks.len al:=by
   rw [hn];exact BP h' h _ _ e1 e2 e3 e4 e5
  simp only [Tm.good];rw [<- hA.good,<- hB.good,<- hR.good,<- ht];constructor
  .intro h
   exact ⟨h (d,n) List.mem_cons_self,λe he=>h e (List.mem_cons_of_mem _ (List.mem_append_left _ (List.mem_append_left _ he))),λe he=>h e (List.mem_cons_of_mem _ (List.mem_append_left _ (List.mem_append_right _ he))),λe he=>h e (List.mem_cons_of_mem _ (List.mem_append_right _ he))⟩
  .rintro ⟨h1,h2,h3,h4⟩ e he
   rcases List.mem_cons.1 he with rfl | he
   .exact h1
   .rcases List.mem_append.1 he with he | he
    .rcases List.mem_append.1 he with he | he
     .exact h2 e he
     .exact h3 e he
    .exact h4 e he
 .have:=hA.len
  have:=hB.len
  have:=hR.len
  simp only [List.length_cons,List.length_append];omega
theorem GK {W:World} {S:Nat->Prop}:∀(m:Nat),(∀(F:Fo) (n b o d:Nat),F.size<=m->Fit E F (rep (E 3) n)->F.av W S->PF (eH (aS b o F) d) (di F) d F.size)∧(∀(F:Fo) (n b o d:Nat),F.size<=m->Fit E F (rep (E 2) n)->F.av W S->PF (eH (aJ b o F) d) (aV F) d F.size):=by
 have hat:∀(m:Nat),(∀(F:Fo) (n b o d:Nat),F.size<=m->Fit E F (rep (E 3) n)->F.av W S->PF (eH (aS b o F) d) (di F) d F.size)∧(∀(F:Fo) (n b o d:Nat),F.size<=m->Fit E F (rep (E 2) n)->F.av W S->PF (eH (aJ b o F) d) (aV F) d F.size)->
   ∀(x:Fo) (d:Nat) (b o:Nat),x.size<=m+1->Fit E x (E 3)->x.av W S->∃A B,eH (Nd.kids ⟨b,o,x⟩) d=A++B∧∃(h:Hd) (ks al:Tm) (s1 s2:Nat),di x=.nd h ks al .nil∧(∀q,di (x.app q)=.nd h ks al (di q))∧h.au=⟨#[]⟩∧h.cs=[]∧PF A ks d s1∧PF B al d s2∧s1+s2+1<=x.size:=by
  intro m ih x d b o hm hx hs;obtain ⟨k,nm,mn,la,ln,lc,lk,na,nn,nc,nk,ka,kn,kc,kk,aa,an,ac,ak,rfl,-,-,-,-,h5,h6⟩:=ag hx;obtain ⟨-,-,hs5,hs6,-⟩:=hs;simp only [Fo.size] at hm;refine ⟨eH (eP ka kk) d,eH (fC aa ak) d,?_,⟨⟨#[]⟩,[],k,nm,mn,gW lk,eU nk⟩,di kk,aV ak,kk.size,ak.size,by rw [eT,dB],λq=>by simp only [Fo.app];rw [eT],rfl,rfl,?_,?_,by simp only [Fo.size];omega⟩
  .show eH (eP ka kk++fC aa ak) d=_
   exact BO _ _ _
  .by_cases hl:0 < kk.len
   .obtain ⟨b',o',rfl,-,-,hsk⟩:=hs5.2.2 hl
    exact ih.1 kk kn b' o' d (by omega) h5 hsk
   .have e:=Fo.iD hl
    subst e;have e2:eP ka .nil=[]:=by cases ka <;> simp [eP,aS]
    rw [e2,iC,dB];exact PF.nil _ _
  .by_cases hl:0 < ak.len
   .obtain ⟨b',o',rfl,-,-,hsk⟩:=hs6.2.2 hl
    exact ih.2 ak an b' o' d (by omega) h6 hsk
   .have e:=Fo.iD hl
    subst e;have e2:fC aa .nil=[]:=by cases aa <;> simp [fC,aJ]
    rw [e2,iC,gY];exact PF.nil _ _
 intro m
 induction m with
 | zero=>
  refine ⟨λF n b o d h _ _=>?_,λF n b o d h _ _=>?_⟩
  .cases F with
   | nil=>simp only [aS,iC,dB];exact PF.nil _ _
   | v _ _=>simp [Fo.size] at h
   | s _ _ _ _ _=>simp [Fo.size] at h
  .cases F with
   | nil=>simp only [aJ,iC,gY];exact PF.nil _ _
   | v _ _=>simp [Fo.size] at h
   | s _ _ _ _ _=>simp [Fo.size] at h
 | succ m ih=>
  refine ⟨λF n b o d hm hf hs=>?_,λF n b o d hm hf hs=>?_⟩
  .cases n with
   | zero=>rw [ai hf];simp only [aS,iC,dB];exact PF.nil _ _
   | succ n=>
    obtain ⟨x,q,rfl,hx,hq,hl⟩:=Fit.split (fs:=E 3) (gs:=rep (E 3) n) hf;rw [Fo.aM] at hm;have hxl:x.len<=x.size:=x.fJ;have hl7:(E 3).length=7:=rfl;obtain ⟨A,B,UI,h,ks,al,s1,s2,e1,e2,-,-,hA,hB,hsz⟩:=hat m ih x (d+1) b o (by omega) hx hs.left;have hR:=ih.1 q n b (o+7) d (by omega) hq hs.right;have hit:aS b o (x.app q)=⟨b,o,x⟩::aS b (o+7) q:=by
     exact zz195
    rw [hit,iP,UI,e2];exact PF.node hA hB hR e1 rfl rfl rfl rfl rfl (by rw [Fo.aM];omega)
  .cases n with
   | zero=>rw [ai hf];simp only [aJ,iC,gY];exact PF.nil _ _
   | succ n=>
    obtain ⟨x,q,rfl,hx,hq,hl⟩:=Fit.split (fs:=E 2) (gs:=rep (E 2) n) hf;rw [Fo.aM] at hm;obtain ⟨au,ca,cn,cc,ck,y,rfl,-,h1,hy⟩:=aK hx;simp only [Fo.size] at hm;obtain ⟨A,B,UI,h,ks,al,s1,s2,e1,e2,-,-,hA,hB,hsz⟩:=hat m ih y (d+1) b (o+2) (by omega) hy hs.left.2;have hR:=ih.2 q n b (o+9) d (by omega) hq hs.right;have hit:aJ b o ((Fo.v (.string au) (.s ca cn cc ck y)).app q)=⟨b,o+2,y⟩::aJ b (o+9) q∧∃h2:Hd,aV ((Fo.v (.string au) (.s ca cn cc ck y)).app q)=.nd h2 ks al (aV q)∧h.k=h2.k∧h.nm=h2.nm∧h.mn=h2.mn∧h.lm=h2.lm∧h.ns=h2.ns:=by
     obtain ⟨k,nm,mn,la,ln,lc,lk,na,nn,nc,nk,ka,kn,kc,kk,aa,an,ac,ak,rfl,-⟩:=ag hy;rw [eT,dB] at e1;obtain ⟨rfl,rfl,rfl,-⟩:=Tm.nd.inj e1;simp only [Fo.app,aJ];rw [oH];exact ⟨trivial,_,rfl,rfl,rfl,rfl,rfl,rfl⟩
    obtain ⟨XC,h2,hit2,f1,f2,f3,f4,f5⟩:=hit;rw [XC,iP,UI,hit2];exact PF.node hA hB hR e1 f1 f2 f3 f4 f5 (by rw [Fo.aM];simp only [Fo.size];omega)
theorem Ec {W:World} {S:Nat->Prop} {n:Nd} (h:n.Ok W S):PF (eH [n] 1) (di n.x) 1 n.x.size:=by
 have h1:=(GK (W:=W) (S:=S) n.x.size).1 n.x 1 n.b n.o 1 (Nat.le_refl _) (by show Fit E n.x (E 3++[]);rw [List.append_nil];exact h.fit) h.subs;have e:aS n.b n.o n.x=[n]:=by
  obtain ⟨b,o,x⟩:=n;obtain ⟨k,nm,mn,la,ln,lc,lk,na,nn,nc,nk,ka,kn,kc,kk,aa,an,ac,ak,rfl,-⟩:=ag h.fit;simp only [aS]
 rw [e] at h1;exact h1
theorem Jo {W:World} {S:Nat->Prop} {M:Nat} (L:List Nd) (d:Nat):(∀n∈L,n.Ok W S∧n.x.size<=M)->∀e∈eH L d,e.2.Ok W S∧e.2.x.size<=M:=by
 induction L,d using eH.induct with
 | case1 d=>intro _ e he;rw [iC] at he;exact absurd he List.not_mem_nil
 | case2 x xs d ih1 ih2=>
  intro hL e he;have hx:=hL x List.mem_cons_self;rw [iP] at he;rcases List.mem_cons.1 he with rfl | he
  .exact hx
  .rcases List.mem_append.1 he with he | he
   .refine ih1 (λn hn=>⟨x.Ed hx.1 n hn,?_⟩) e he
    rcases x.yT with h | h
    .rw [h] at hn;exact absurd hn List.not_mem_nil
    .have:=Mw hn
     have:=hx.2
     omega
   .exact ih2 (λn hn=>hL n (List.mem_cons_of_mem _ hn)) e he
open Go.RowKit Go.Shelf Go.Joins
theorem Lr {P:Program} {o:Oper} {a:Act} {w:World} {K:Act->World->Prop} {Q:Exit->Act->World->Prop} (n l:Nat) (hd:∀c,o.op≠.defer c) (h:o.wp P a w K Q):o.wpIn (Fence.wide.inRound l) n P a w K Q:=by
 unfold Oper.wpIn;refine ⟨λ_ _=>trivial,?_⟩;rw [Oper.semAt_eq _ _ _ hd];unfold Oper.wp at h;generalize (execOp a.eval o).run P w=r at *
 cases r with
 | ok x w'=>
  cases x with
  | value v=>exact h
  | skip=>exact h
  | defer d=>exact h
  | enter f args=>exact ⟨λe=>(by cases e),CallsIn.inRound l (callsIn_wide.2 h)⟩
  | row row args=>
   refine ⟨λe=>(by cases e),λc cs _=>?_⟩;obtain ⟨v,w2,r,s⟩:=(h:Rows P row args w' _) c cs;exact ⟨v,w2,r,stepsIn_wide.2 s⟩
  | _=>exact h.elim
 | halt x w'=>
  cases x with
  | panic v=>exact h
  | _=>exact h.elim
theorem qH {P:Program} {md:Region.Mode} {ops:Array Oper} {Q:Exit->Act->World->Prop} (n l:Nat) (hd:∀(i:Nat) (o:Oper),ops[i]? =some o->∀c,o.op≠.defer c) (hL:¬LetsOut Q):∀(fuel:Nat) (listed:Array Bool) (a:Act) (w:World),wpAny P md ops Q fuel listed a w->wpAnyIn (Fence.wide.inRound l) n P md ops Q fuel listed a w
 | 0,_,_,_,h=>h
 | fuel+1,listed,a,w,h=>by
  refine ⟨h.1,λi hi=>?_⟩;have h2:=h.2 i hi;unfold wpOp at h2;unfold wpOpIn
  cases ho:ops[i]? with
  | none=>
   rw [ho] at h2;exact qH n l hd hL fuel _ a w h2
  | some o=>
   rw [ho] at h2;simp only at h2 ⊢
   split
   .rename_i hw
    rw [if_pos hw] at h2;rcases h2 with h2 | h2
    .exact Oper.wpIn_mono (λa w h=>qH n l hd hL fuel _ a w h) (Lr n l (hd i o ho) h2)
    .exact absurd h2.2 hL
   .rename_i hw
    rw [if_neg hw] at h2;exact ⟨λ_ _=>trivial,qH n l hd hL fuel _ _ w h2⟩
theorem pE {ops:Array Oper} {Q:Exit->Act->World->Prop} {id n l:Nat} {a:Act} {w:World} (S:World->Prop) (hd:ops.toList.all (λo=>match o.op with | .defer _=>false | _=>true)=true) (hL:¬LetsOut Q) (hS:S w.drew)
  (h:S w.drew->wpAnyH Tryz.prog .any ops Q S ops.size (Array.replicate ops.size false) a w.drew):(Code.region id ops true).wpIn (Fence.wide.inRound l) n Tryz.prog Q a w:=by
 refine wpIn_region_any (by kernel_rfl) (qH n l (λi o ho c e=>?_) hL _ _ _ _ (wpAny_of_held _ _ _ _ (h hS)));rw [List.all_eq_true] at hd;have h1:=hd o (by
  have:=Array.mem_of_getElem? ho
  exact Array.mem_toList_iff.2 this)
 rw [e] at h1
 cases h1
theorem zP (d:Nd) (W:World):Calls Tryz.prog 46 #[d.ptr] W λe W'=>e=.returned (.func (.func 99) #[] #[.pointer (some ⟨W.heap.size,0,none⟩),.pointer (some ⟨W.heap.size+1,0,none⟩)])∧W'=(W.alloc (.cells #[d.ptr] 55)).alloc (.cells #[.func (.func 64) #[] #[]] 114):=by
 simp only [Nd.ptr];have HP:Hid (Calls Tryz.prog 63 #[.pointer (some ⟨d.b,d.o,none⟩),.func (.func 64) #[] #[]] W λe W'=>e=.returned (.func (.func 99) #[] #[.pointer (some ⟨W.heap.size,0,none⟩),.pointer (some ⟨W.heap.size+1,0,none⟩)])∧W'=(W.alloc (.cells #[.pointer (some ⟨d.b,d.o,none⟩)] 55)).alloc (.cells #[.func (.func 64) #[] #[]] 114)):=by
  unfold Hid;go_enter Tryz.func63,Tryz.ntmps63;exact zz20
 go_enter Tryz.func46,Tryz.ntmps46;go_wp2_with fail;refine HP.out.mono ?_;rintro e w1 ⟨rfl,rfl⟩;exact zz20
end Go.Proofs.YthfnobboalhihaaGreat.C
