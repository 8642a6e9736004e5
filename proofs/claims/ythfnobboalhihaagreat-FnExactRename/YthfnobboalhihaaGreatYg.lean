import Derived.Test.YthfnobboalhihaaGreatYfK
import Derived.Test.YthfnobboalhihaaGreatYfA
set_option maxHeartbeats 2000000
set_option maxRecDepth 100000
namespace Go.Proofs.YthfnobboalhihaaGreat
open Go.RowKit Go.Joins
theorem zz149 {P:Prop} (h:P:=by
 refine ⟨λe1=>?_,λe1=>?_,h3⟩
 .obtain ⟨cur',h4⟩:=tk d e1;rw [h4] at h2;cases h2
 .obtain ⟨cur',h4⟩:=ta d e1;rw [h4] at h2;cases h2):P:=h
variable {OK OA:Nat->Nat} {RG:Nat->Option Value}
theorem eQ {W:World} {B n sz:Nat} {e:TypeId} {v:Value} {xs:List Value} (h:W.ownsRow B e sz v n xs):∀b,v.ownBlock=some b->∃cur,W.heap[b]? =some (.cells cur e (0,0)):=λb hb=>by
 rcases h.2 with ⟨rfl,-⟩ | ⟨g,cap,cur,rfl,-,hg,-⟩
 .simp [Value.ownBlock] at hb
 .have:g=b:=Option.some.inj hb
  rw [<- this];exact ⟨cur,hg⟩
def pQ (wb:Nat):Value:=.func (.func 65) #[] #[.pointer (some ⟨wb,0,none⟩)]
structure St (OK OA:Nat->Nat) (RG:Nat->Option Value) (lo G wb fb:Nat) (V:World) (KK AA Q:List (Nat×Nat)) (mk sk ma sa wv:Value):Prop where
 k:K.GS OK lo G V KK KK mk sk K.zf
 a:A.GS OA lo G V AA AA ma sa A.zf
 w:Bx V wb [wv]
 f:Bx V fb [pQ wb]
 q:V.ownsRow lo 55 1 wv Q.length (Q.map kp)
 dM:∀M,mk=.map (some M)->ma≠.map (some M)
 dS:∀b,sk.ownBlock=some b->sa.ownBlock≠some b
 hw:wb < lo∧wb≠G
 hf:fb < lo∧fb≠G∧fb≠wb
 hl:(∀e∈KK,e.1≠wb)∧∀e∈AA,e.1≠wb
 rg:∀j,j≠0->j≠1->j≠4->j≠5->V.cell? ⟨G,j,none⟩=RG j
section
variable {lo G wb fb:Nat} {V:World} {KK AA Q:List (Nat×Nat)} {mk sk ma sa wv:Value}
theorem St.kept (h:St OK OA RG lo G wb fb V KK AA Q mk sk ma sa wv) {V':World} (k:Kept (λ_=>True) V V'):St OK OA RG lo G wb fb V' KK AA Q mk sk ma sa wv:=
 ⟨h.k.kept k,h.a.kept k,h.w.kept k trivial,h.f.kept k trivial,aj h.q k (λ_ _=>trivial),h.dM,h.dS,h.hw,h.hf,h.hl,λj a b c d=>(k.cell (p:=⟨G,j,none⟩) (by have:=h.k.hg;have:=h.k.hv;show G < _;omega) trivial).trans (h.rg j a b c d)⟩
theorem St.apart (h:St OK OA RG lo G wb fb V KK AA Q mk sk ma sa wv):(∀d,wv.ownBlock=some d->mk≠.map (some d)∧ma≠.map (some d)∧sk.ownBlock≠some d∧sa.ownBlock≠some d∧lo<=d)∧(∀d,mk=.map (some d)->sk.ownBlock≠some d∧sa.ownBlock≠some d∧lo<=d)∧(∀d,ma=.map (some d)->sk.ownBlock≠some d∧sa.ownBlock≠some d∧lo<=d):=by
 have mkm:∀d,mk=.map (some d)->(∃es c,V.heap[d]? =some (.map es c))∧lo<=d:=λd e=>by
  rcases h.k.mp with ⟨-,h1⟩ | ⟨M,h1,⟨es,c,h2,-⟩,h3⟩
  .rw [e] at h1;cases h1
  .rw [e] at h1;cases h1;exact ⟨⟨es,c,h2⟩,h3⟩
 have mam:∀d,ma=.map (some d)->(∃es c,V.heap[d]? =some (.map es c))∧lo<=d:=λd e=>by
  rcases h.a.mp with ⟨-,h1⟩ | ⟨M,h1,⟨es,c,h2,-⟩,h3⟩
  .rw [e] at h1;cases h1
  .rw [e] at h1;cases h1;exact ⟨⟨es,c,h2⟩,h3⟩
 have tk:=eQ h.k.ow;have ta:=eQ h.a.ow;have tq:=eQ h.q;refine ⟨λd e=>?_,λd e=>?_,λd e=>?_⟩
 .obtain ⟨cur,hc⟩:=tq d e
  refine ⟨λe1=>?_,λe1=>?_,λe1=>?_,λe1=>?_,az h.q d e⟩
  .obtain ⟨⟨es,c,h2⟩,-⟩:=mkm d e1;rw [hc] at h2;cases h2
  .obtain ⟨⟨es,c,h2⟩,-⟩:=mam d e1;rw [hc] at h2;cases h2
  .obtain ⟨cur',h2⟩:=tk d e1;rw [hc] at h2;cases h2
  .obtain ⟨cur',h2⟩:=ta d e1;rw [hc] at h2;cases h2
 .obtain ⟨⟨es,c,h2⟩,h3⟩:=mkm d e
  exact zz149
 .obtain ⟨⟨es,c,h2⟩,h3⟩:=mam d e
  exact zz149
theorem St.Nj (h:St OK OA RG lo G wb fb V KK AA Q mk sk ma sa wv) {V':World} {Dn:List (Nat×Nat)} {M r n cap:Nat} (g:K.GS OK lo G V' Dn Dn (.map (some M)) (.slice (some ⟨r,0,none⟩) n cap) K.zf) (k:Kept (λd=>d≠G∧mk≠.map (some d)∧sk.ownBlock≠some d) V V') (hc:∀j,j≠0->j≠1->V'.cell? ⟨G,j,none⟩=V.cell? ⟨G,j,none⟩) (hM:mk=.map (some M)∨V.heap.size<=M) (hr:sk.ownBlock=some r∨V.heap.size<=r) (hl':∀e∈Dn,e.1≠wb):
  St OK OA RG lo G wb fb V' Dn AA Q (.map (some M)) (.slice (some ⟨r,0,none⟩) n cap) ma sa wv:=by
 obtain ⟨a1,a2,a3⟩:=h.apart;have Fj:∀d,ma=.map (some d)->d < V.heap.size:=λd e=>by
  rcases h.a.mp with ⟨-,h1⟩ | ⟨M,h1,h2,-⟩
  .rw [e] at h1;cases h1
  .rw [e] at h1;cases h1;exact h2.lt
 have Fq:∀d,sa.ownBlock=some d->d < V.heap.size:=λd e=>by
  obtain ⟨cur,h1⟩:=eQ h.a.ow d e;exact (Array.getElem?_eq_some_iff.1 h1).1
 have lw:∀d,d < lo->d≠G->d≠G∧mk≠.map (some d)∧sk.ownBlock≠some d:=λd hd hG=>⟨hG,λe=>by have:=(a2 d e).2.2;omega,λe=>by have:=az h.k.ow d e;omega⟩
 refine ⟨g,h.a.frame k (λe he=>lw e.1 (h.a.lv e he).2.1 (h.a.lv e he).2.2) (λd hd=>?_) ((hc 4 (by omega) (by omega)).trans h.a.gm) ((hc 5 (by omega) (by omega)).trans h.a.gs) g.gf,h.w.kept k (lw wb h.hw.1 h.hw.2),h.f.kept k (lw fb h.hf.1 h.hf.2.1),aj h.q k (λb e=>?_),λM' e e'=>?_,λb e e'=>?_,h.hw,h.hf,⟨hl',h.hl.2⟩,λj a b c d=>(hc j a b).trans (h.rg j a b c d)⟩
 .rcases hd with h1 | h1
  .exact ⟨by have:=(a3 d h1).2.2;have:=h.k.hg;omega,λe=>h.dM d e h1,(a3 d h1).1⟩
  .exact ⟨by have:=az h.a.ow d h1;have:=h.k.hg;omega,λe=>(a2 d e).2.1 h1,λe=>h.dS d e h1⟩
 .obtain ⟨x1,x2,x3,x4,x5⟩:=a1 b e
  exact ⟨by have:=h.k.hg;omega,x1,x3⟩
 .cases e
  rcases hM with hM | hM
  .exact h.dM M hM e'
  .have:=Fj M e';omega
 .have eb:r=b:=Option.some.inj e
  subst eb;rcases hr with hr | hr
  .exact h.dS r hr e'
  .have:=Fq r e';omega
end
theorem St.off {lo G wb fb:Nat} {V:World} {KK AA Q:List (Nat×Nat)} {mk sk ma sa wv:Value} (h:St OK OA RG lo G wb fb V KK AA Q mk sk ma sa wv) {V':World} {x:Nat} (k:Kept (λd=>d≠x) V V') (hx:lo<=x) (h1:mk≠.map (some x)) (h2:ma≠.map (some x)) (h3:sk.ownBlock≠some x) (h4:sa.ownBlock≠some x) (h5:wv.ownBlock≠some x):St OK OA RG lo G wb fb V' KK AA Q mk sk ma sa wv:=by
 have gl:=h.k.hg;exact ⟨h.k.off k hx (λM e e'=>h1 (by rw [e,e'])) (λb e e'=>h3 (by rw [e,e'])),h.a.off k hx (λM e e'=>h2 (by rw [e,e'])) (λb e e'=>h4 (by rw [e,e'])),h.w.kept k (by have:=h.hw.1;omega),h.f.kept k (by have:=h.hf.1;omega),aj h.q k (λb e e'=>h5 (by rw [e,e'])),h.dM,h.dS,h.hw,h.hf,h.hl,λj a b c d=>(k.cell (p:=⟨G,j,none⟩) (by have:=h.k.hv;show G < _;omega) (by show G≠x;omega)).trans (h.rg j a b c d)⟩
theorem St.fresh {lo G wb fb:Nat} {V:World} {KK AA Q:List (Nat×Nat)} {mk sk ma sa wv:Value} (h:St OK OA RG lo G wb fb V KK AA Q mk sk ma sa wv) {x:Nat} (hx:V.heap.size<=x):mk≠.map (some x)∧ma≠.map (some x)∧sk.ownBlock≠some x∧sa.ownBlock≠some x∧wv.ownBlock≠some x:=by
 refine ⟨λe=>?_,λe=>?_,λe=>?_,λe=>?_,λe=>?_⟩
 .rcases h.k.mp with ⟨-,h1⟩ | ⟨M,h1,h2,-⟩
  .rw [e] at h1;cases h1
  .rw [e] at h1;cases h1;have:=h2.lt;omega
 .rcases h.a.mp with ⟨-,h1⟩ | ⟨M,h1,h2,-⟩
  .rw [e] at h1;cases h1
  .rw [e] at h1;cases h1;have:=h2.lt;omega
 .obtain ⟨cur,h1⟩:=eQ h.k.ow x e
  have:=(Array.getElem?_eq_some_iff.1 h1).1;omega
 .obtain ⟨cur,h1⟩:=eQ h.a.ow x e
  have:=(Array.getElem?_eq_some_iff.1 h1).1;omega
 .obtain ⟨cur,h1⟩:=eQ h.q x e
  have:=(Array.getElem?_eq_some_iff.1 h1).1;omega
theorem Tryz.info55:(Tryz.prog.info? 55).map (λi=>(i.zero,i.size,i.bytes))=some (some (.pointer none),1,8):=by kernel_rfl
theorem DU {lo G wb fb:Nat} {V:World} {KK AA Q:List (Nat×Nat)} {mk sk ma sa wv:Value} (h:St OK OA RG lo G wb fb V KK AA Q mk sk ma sa wv) (x:Nat×Nat) (hq:Q.length<=10000000):
  Calls Tryz.prog 65 #[.pointer (some ⟨x.1,x.2,none⟩),.pointer (some ⟨wb,0,none⟩)] V λe V'=>e=.returned (.tuple #[])∧∃r cap,St OK OA RG lo G wb fb V' KK AA (Q++[x]) mk sk ma sa (.slice (some ⟨r,0,none⟩) (Q.length+1) cap)∧Kept (λd=>wv.ownBlock≠some d∧d≠wb) V V'∧(wv.ownBlock=some r∨V.heap.size<=r):=by
 obtain ⟨a1,a2,a3⟩:=h.apart;obtain ⟨n,hn⟩:∃n,Q.length=n:=⟨_,rfl⟩
 obtain ⟨V2,hV2⟩:∃V2,V.alloc (.cells #[.pointer (some ⟨x.1,x.2,none⟩)] 55)=V2:=⟨_,rfl⟩
 have k2:Kept (λ_=>True) V V2:=by rw [<- hV2];exact Kept.alloc _ _ _
 have h2:=h.kept k2;have HN:Hid (V2.heap[V.heap.size]? =some (.cells #[.pointer (some ⟨x.1,x.2,none⟩)] 55)):=by unfold Hid;rw [<- hV2];exact bH _ _
 have HOW:Hid (V2.ownsRow lo 55 1 wv n (Q.map kp)):=by have:=h2.q;rw [hn] at this;exact this
 have HZ:=hide h2.k.hv;have h63:Hid (n+1<=maxLen∧(n+1)* 8<=140737488355328):=⟨by unfold maxLen;omega,by omega⟩
 have iV:Hid (∀r cap W',W'.ownsRow lo 55 1 (.slice (some ⟨r,0,none⟩) (n+1) cap) (n+1) (Q.map kp++[.pointer (some ⟨x.1,x.2,none⟩)])->V2.grownBy W' wv.ownBlock->(wv.ownBlock=some r∨r=V2.heap.size)->(W'.cell? ⟨wb,0,none⟩=some wv∧W'.frozen? ⟨wb,0,none⟩=false)∧St OK OA RG lo G wb fb (W'.setCell ⟨wb,0,none⟩ (.slice (some ⟨r,0,none⟩) (n+1) cap)) KK AA (Q++[x]) mk sk ma sa (.slice (some ⟨r,0,none⟩) (n+1) cap)∧Kept (λd=>wv.ownBlock≠some d∧d≠wb) V (W'.setCell ⟨wb,0,none⟩ (.slice (some ⟨r,0,none⟩) (n+1) cap))∧(wv.ownBlock=some r∨V.heap.size<=r)):=λr cap W' o1 o2 o3=>by
  have kO:Kept (λd=>wv.ownBlock≠some d) V2 W':=Kept.grown o2 (λd e hd=>hd e);have kS:Kept (λd=>d≠wb) W' (W'.setCell ⟨wb,0,none⟩ (.slice (some ⟨r,0,none⟩) (n+1) cap)):=Kept.setCell _ _ _ _ (by simp);have kk:Kept (λd=>wv.ownBlock≠some d∧d≠wb) V2 (W'.setCell ⟨wb,0,none⟩ (.slice (some ⟨r,0,none⟩) (n+1) cap)):=(kO.mono (λ_ _ hd=>hd.1)).trans (kS.mono (λ_ _ hd=>hd.2));have low:∀d,d < lo->d≠wb->wv.ownBlock≠some d∧d≠wb:=λd hd hw=>⟨λe=>by have:=az h.q d e;omega,hw⟩
  have hG:=low G h.k.hg (λe=>h.hw.2 e.symm);have gl:=h2.k.hg;have gv:=h2.k.hv;have hwq:∀d,lo<=d->(mk=.map (some d)∨ma=.map (some d)∨sk.ownBlock=some d∨sa.ownBlock=some d)->wv.ownBlock≠some d∧d≠wb:=λd hd ho=>⟨λe=>by
   obtain ⟨x1,x2,x3,x4,-⟩:=a1 d e;rcases ho with h1 | h1 | h1 | h1
   .exact x1 h1
   .exact x2 h1
   .exact x3 h1
   .exact x4 h1,by have:=h.hw.1;omega⟩
  have bw:=(h2.w.kept kO (λe=>by have:=az h.q wb e;have:=h.hw.1;omega))
  have cG:∀j,(W'.setCell ⟨wb,0,none⟩ (.slice (some ⟨r,0,none⟩) (n+1) cap)).cell? ⟨G,j,none⟩=V2.cell? ⟨G,j,none⟩:=λj=>kk.cell (p:=⟨G,j,none⟩) (by show G < _;omega) hG
  have fG:∀j,(W'.setCell ⟨wb,0,none⟩ (.slice (some ⟨r,0,none⟩) (n+1) cap)).frozen? ⟨G,j,none⟩=false:=λj=>(kk.frozen (p:=⟨G,j,none⟩) (by show G < _;omega) hG).trans (h2.k.gf j)
  refine ⟨⟨bw.ae 0 _ rfl,bw.live 0⟩,⟨h2.k.frame kk (λe he=>low e.1 (h2.k.lv e he).2.1 (h.hl.1 e he)) (λd hd=>?_) ((cG 0).trans h2.k.gm) ((cG 1).trans h2.k.gs) fG,h2.a.frame kk (λe he=>low e.1 (h2.a.lv e he).2.1 (h.hl.2 e he)) (λd hd=>?_) ((cG 4).trans h2.a.gm) ((cG 5).trans h2.a.gs) fG,(bw.put 0 _ (by simp):Bx _ wb [_]),h2.f.kept kk (low fb h.hf.1 h.hf.2.2),?_,h.dM,h.dS,h.hw,h.hf,h.hl,λj a b c d=>(cG j).trans (h2.rg j a b c d)⟩,?_⟩
  .rcases hd with h1 | h1
   .exact hwq d (a2 d h1).2.2 (.inl h1)
   .exact hwq d (az h.k.ow d h1) (.inr (.inr (.inl h1)))
  .rcases hd with h1 | h1
   .exact hwq d (a3 d h1).2.2 (.inr (.inl h1))
   .exact hwq d (az h.a.ow d h1) (.inr (.inr (.inr h1)))
  .have o1':=aj o1 kS (λb e=>by have:=az o1 b e;have:=h.hw.1;omega)
   rw [List.length_append,List.map_append,hn];exact o1'
  .refine ⟨(k2.mono (λ_ _ _=>trivial)).trans kk,?_⟩
   rcases o3 with o3 | o3
   .exact .inl o3
   .exact .inr (by have:=k2.size;omega)
 have c0:=h.w.ae 0 _ rfl;have qW:=hide hV2;rw [hn];clear hV2 h h2 k2 a1 a2 a3 hn hq;go_enter Tryz.func65,Tryz.ntmps65;go_wp2_with (at_builtin;rw [qW.out];refine iB rfl _ _ 113 55 rfl Tryz.info55 Tryz.underlying113 rfl (by decide) lo V2 wv n (Q.map kp) [.pointer (some ⟨x.1,x.2,none⟩)] _ _ rfl rfl HZ.out HOW.out HN.out rfl (by simp [Value.oneCell']) h63.out.1 h63.out.2 ?_;intro r cap w3 gX fB rW;have jF:=hide (iV.out r cap w3 gX fB rW);have x1:=jF.out.1.1;have x2:=jF.out.1.2;clear gX fB rW);exact bodyPost_end (results_none rfl _ _ _) rfl ⟨rfl,r,cap,jF.out.2⟩
end Go.Proofs.YthfnobboalhihaaGreat
