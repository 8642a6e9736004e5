import Derived.Test.YthfnobboalhihaaGreatXy
set_option maxHeartbeats 4000000
set_option maxRecDepth 100000
namespace Go.Proofs.YthfnobboalhihaaGreat
open Go.RowKit Go.Joins
theorem y7 {w:World} {B1 G:Nat} {LS:List (Nat×Nat)} {lv:Value} {Mn:Nat} (h:LN w B1 G LS lv Mn) (x:Nat×Nat) (i:Nat) (hi:LS[i]? =some x):
  Calls Tryz.prog 75 #[.pointer (some ⟨G,0,none⟩),lk x] w λe w'=>e=.returned (.int .i64 (i:Int))∧Kept (λ_=>True) w w':=by
 have HX:Hid (∀V,Kept (λ_=>True) w V->V.cell? ⟨G,10,none⟩=some (.map (some Mn))∧(Instr.lookup 132 (.map (some Mn)) (.agg #[.int .i64 (x.1:Int),.int .i64 (x.2:Int)]) true).run Tryz.prog V=.ok (.tuple #[.int .i64 (i:Int),.bool true]) V):=λV k=>by
  exact zz213
 obtain ⟨V1,hV1⟩:∃V,w.alloc (.cells #[.int .i64 (x.1:Int),.int .i64 (x.2:Int)] 130)=V:=⟨_,rfl⟩
 have k1:Kept (λ_=>True) w V1:=by rw [<- hV1];exact Kept.alloc _ _ _
 have bx:Bx V1 w.heap.size [.int .i64 (x.1:Int),.int .i64 (x.2:Int)]:=by rw [<- hV1];exact Bx.new _ _ _
 obtain ⟨u1,u2⟩:=HX.out V1 k1;obtain ⟨u3,u4⟩:=HX.out V1.drew (k1.trans (Kept.drew _ _));have x0:=bx.ae 0 _ rfl;have x1:=bx.ae 1 _ rfl;have y0:=(bx.kept (Kept.drew (λ_=>True) _) trivial).ae 0 _ rfl;have y1:=(bx.kept (Kept.drew (λ_=>True) _) trivial).ae 1 _ rfl;have gD:=hide hV1;have fU:=hide k1;obtain ⟨s,hs⟩:∃s,w.heap.size=s:=⟨_,rfl⟩
 rw [hs] at x0 x1 y0 y1;unfold lk;clear h hi k1 bx hV1 HX;go_enter Tryz.func75,Tryz.ntmps75
 go_upto_region 1 with fail
 rw [gD.out]
 go_region
 all_goals
  go_wp2_with fail;go_ret;exact ⟨rfl,fU.out.trans (Kept.drew _ _)⟩
theorem Hf {w:World} {G:Nat} (a:Option Addr) (cap:Nat):
  Calls Tryz.prog 51 #[.pointer (some ⟨G,0,none⟩),.slice a 0 cap] w λe w'=>e=.returned (.int .i64 0)∧Kept (λ_=>True) w w':=by
 go_enter Tryz.func51,Tryz.ntmps51;go_wp2_with fail;go_ret;exact ⟨rfl,Kept.refl _ _⟩
theorem Hg {w:World} {G:Nat} (a:Option Addr) (cap:Nat):
  Calls Tryz.prog 93 #[.pointer (some ⟨G,0,none⟩),.slice a 0 cap] w λe w'=>e=.returned (.int .i64 0)∧Kept (λ_=>True) w w':=by
 go_enter Tryz.func93,Tryz.ntmps93;go_wp2_with fail;go_ret;exact ⟨rfl,Kept.refl _ _⟩
theorem Hl {O:Nat->Nat} {w:World} {B1 lo G:Nat} {KK AA:List (Nat×Nat)} {mk sk ma sa:Value} {tk ta:Nat} {LS:List (Nat×Nat)} {lv:Value} {Mn:Nat} (h:PZ O w B1 lo G KK AA mk sk ma sa tk ta LS lv Mn) (hn:(KK.map Prod.fst).Nodup) {k b n cap:Nat} (hk:KK[k]? =some (b,n)) (hn0:0 < n) {i:Nat} (hi:LS[i]? =some (K.off KK k,n)) (hK:KK.length<=10000000) (hof:K.off KK KK.length<=10000000):
  Calls Tryz.prog 51 #[.pointer (some ⟨G,0,none⟩),.slice (some ⟨b,O b,none⟩) n cap] w λe w'=>e=.returned (.int .i64 (i:Int))∧Kept (λ_=>True) w w':=by
 have hkl:k < KK.length:=(List.getElem?_eq_some_iff.1 hk).1;have hle:=K.gL hk hkl;have hG:G < w.heap.size:=block_lt_of_cell h.c2;have nI:K.iO KK KK.length k=(K.off KK k:Int):=if_pos hkl;obtain ⟨P,hP⟩:∃P,K.off KK k=P:=⟨_,rfl⟩
 have HN:Hid (∀V,Kept (λ_=>True) w V->Calls Tryz.prog 76 #[.pointer (some ⟨G,0,none⟩),.pointer (some ⟨b,O b,none⟩)] V λr V'=>∃v,r=.returned v∧(v=.int .i64 (P:Int)∧Kept (λ_=>True) w V')):=λV kV=>by
  exact zz169
 rw [hP] at hi;have HL:Hid (∀V,Kept (λ_=>True) w V->Calls Tryz.prog 75 #[.pointer (some ⟨G,0,none⟩),.agg #[.int .i64 (P:Int),.int .i64 (n:Int)]] V λe w'=>∃v,e=.returned v∧(v=.int .i64 (i:Int)∧Kept (λ_=>True) w w')):=λV kV=>by
  refine (y7 (h.ln.kept kV trivial trivial (λ_ _=>trivial)) (P,n) i hi).mono ?_;rintro e w' ⟨rfl,q⟩;exact ⟨_,rfl,rfl,kV.trans q⟩
 have hn1:¬(n:Int)=0:=by omega
 have hn2:(0:Int) < (n:Int):=by omega
 clear h hn hk hi hK hof hkl hle hG nI hP;go_enter Tryz.func51,Tryz.ntmps51
 go_upto_region 3 with fail
 go_region_law (first
  | (refine aX (by rfl) 76 #[.pointer (some ⟨G,0,none⟩),.pointer (some ⟨b,O b,none⟩)] (by simp [go_sem]) _ (HN.out _ (Kept.drew _ _)) ?_;rintro v5 W5 ⟨rfl,h5⟩;have K5:=hide h5;clear h5)
  | (refine aX (by rfl) 75 #[.pointer (some ⟨G,0,none⟩),.agg #[.int .i64 (P:Int),.int .i64 (n:Int)]] (by simp [go_sem]) _ (HL.out _ K5.out) ?_;rintro v6 W6 ⟨rfl,h6⟩;have K6:=hide h6;clear h6)
  | fail)
 all_goals
  go_wp2_with fail;go_ret;exact ⟨rfl,K6.out⟩
theorem Hm {O:Nat->Nat} {w:World} {B1 lo G:Nat} {KK AA:List (Nat×Nat)} {mk sk ma sa:Value} {tk ta:Nat} {LS:List (Nat×Nat)} {lv:Value} {Mn:Nat} (h:PZ O w B1 lo G KK AA mk sk ma sa tk ta LS lv Mn) (hn:(AA.map Prod.fst).Nodup) {k b n cap:Nat} (hk:AA[k]? =some (b,n)) (hn0:0 < n) {i:Nat} (hi:LS[i]? =some (K.off KK KK.length+A.off AA k,n)) (hK:AA.length<=10000000) (hof:A.off AA AA.length<=10000000) (hok:K.off KK KK.length<=10000000):
  Calls Tryz.prog 93 #[.pointer (some ⟨G,0,none⟩),.slice (some ⟨b,O b,none⟩) n cap] w λe w'=>e=.returned (.int .i64 (i:Int))∧Kept (λ_=>True) w w':=by
 have hkl:k < AA.length:=(List.getElem?_eq_some_iff.1 hk).1;have hle:=A.gL hk hkl;have hG:G < w.heap.size:=block_lt_of_cell h.c2;have nI:A.iO AA AA.length k=(A.off AA k:Int):=if_pos hkl;obtain ⟨P,hP⟩:∃P,A.off AA k=P:=⟨_,rfl⟩
 obtain ⟨C,hC⟩:∃C,K.off KK KK.length=C:=⟨_,rfl⟩
 have Cr:(C:Int)+(P:Int)=((C+P:Nat):Int):=by simp
 obtain ⟨Q,hQ⟩:∃Q,C+P=Q:=⟨_,rfl⟩
 rw [hQ] at Cr;have hPb:P<=10000000:=by rw [<- hP];dsimp only at hle;omega
 have QB:C<=10000000:=by omega
 have hQw:IntKind.i64.wrap (Q:Int)=(Q:Int):=wrap_small _ (by omega) (by omega);have HN:Hid (∀V,Kept (λ_=>True) w V->Calls Tryz.prog 106 #[.pointer (some ⟨G,4,none⟩),.pointer (some ⟨b,O b,none⟩)] V λr V'=>∃v,r=.returned v∧(v=.int .i64 (P:Int)∧Kept (λ_=>True) w V')):=λV kV=>by
  exact zz170
 rw [hP,hC,hQ] at hi;have HL:Hid (∀V,Kept (λ_=>True) w V->Calls Tryz.prog 75 #[.pointer (some ⟨G,0,none⟩),.agg #[.int .i64 (Q:Int),.int .i64 (n:Int)]] V λe w'=>∃v,e=.returned v∧(v=.int .i64 (i:Int)∧Kept (λ_=>True) w w')):=λV kV=>by
  refine (y7 (h.ln.kept kV trivial trivial (λ_ _=>trivial)) (Q,n) i hi).mono ?_;rintro e w' ⟨rfl,q⟩;exact ⟨_,rfl,rfl,kV.trans q⟩
 have H2:Hid (∀V,Kept (λ_=>True) w V->V.cell? ⟨G,2,none⟩=some (.slice (some ⟨tk,0,none⟩) C C)):=λV kV=>by rw [<- hC];exact (kV.cell (p:=⟨G,2,none⟩) hG trivial).trans h.c2
 have hn1:¬(n:Int)=0:=by omega
 have hn2:(0:Int) < (n:Int):=by omega
 have c1:=H2.out w (Kept.refl _ _);have c1':=H2.out w.drew (Kept.drew _ _);clear h hn hk hi hK hof hkl hle hG nI hP hC hQ hok;go_enter Tryz.func93,Tryz.ntmps93
 go_upto_region 3 with fail
 go_region_law (first
  | (refine aX (by rfl) 106 #[.pointer (some ⟨G,4,none⟩),.pointer (some ⟨b,O b,none⟩)] (by simp [go_sem]) _ (HN.out _ (Kept.drew _ _)) ?_;rintro v5 W5 ⟨rfl,h5⟩;have K5:=hide h5;have c5:=H2.out W5 h5;clear h5)
  | (refine aX (by rfl) 75 #[.pointer (some ⟨G,0,none⟩),.agg #[.int .i64 (Q:Int),.int .i64 (n:Int)]] (by simp [go_sem]) _ (HL.out _ K5.out) ?_;rintro v6 W6 ⟨rfl,h6⟩;have K6:=hide h6;clear h6)
  | fail)
 all_goals
  go_wp2_with fail;go_ret;exact ⟨rfl,K6.out⟩
section
variable {O:Nat->Nat} {w w':World} {B1 lo G:Nat} {KK AA:List (Nat×Nat)} {mk sk ma sa:Value} {tk ta:Nat} {LS:List (Nat×Nat)} {lv:Value} {Mn:Nat} {nv:Value} {n:Nat} {cs:List Value}
theorem PN.UR {S:Nat->Prop} (h:PN O w B1 lo G KK AA mk sk ma sa tk ta LS lv Mn nv n cs) (k:Kept S w w') (hG:S G) (hM:S Mn) (hl:∀c,lv.ownBlock=some c->S c) (hn:∀c,nv.ownBlock=some c->S c) (hF:∀c,FB KK AA mk sk ma sa tk ta c->S c):PN O w' B1 lo G KK AA mk sk ma sa tk ta LS lv Mn nv n cs:=by
 have gl:G < w.heap.size:=block_lt_of_cell h.c8;have hz:=h.z.step (L2:=[]) (lv':=lv) (by rw [List.append_nil];exact h.z.ln.kept k hG hM hl) k hF (λj _ _=>k.cell (p:=⟨G,j,none⟩) gl hG) (λj=>k.frozen (p:=⟨G,j,none⟩) gl hG) (.inl rfl);rw [List.append_nil] at hz;exact ⟨hz,h.l0,(k.cell (p:=⟨G,8,none⟩) gl hG).trans h.c8,(k.frozen (p:=⟨G,8,none⟩) gl hG).trans h.f8,aj h.ow k hn,h.dn⟩
theorem PN.Tj (h:PN O w B1 lo G KK AA mk sk ma sa tk ta LS lv Mn nv n cs) (hb:Bd KK AA) {a:Option Addr} {m cap i:Nat} {x:Nat×Nat} (hx:KX O KK a m x) (hi:LS[i]? =some x):
  Calls Tryz.prog 51 #[.pointer (some ⟨G,0,none⟩),.slice a m cap] w λe w'=>(∃j:Nat,e=.returned (.int .i64 (j:Int))∧LS[j]? =some x)∧Kept (λ_=>True) w w':=by
 rcases hx with ⟨rfl,rfl⟩ | ⟨k,b,rfl,h1,h2,rfl⟩
 .refine (Hf a cap).mono ?_
  rintro e w' ⟨rfl,q⟩;exact ⟨⟨0,rfl,h.l0⟩,q⟩
 .refine (Hl h.z hb.nk h1 h2 hi hb.lk (by have:=hb.ok;omega)).mono ?_
  rintro e w' ⟨rfl,q⟩;exact ⟨⟨i,rfl,hi⟩,q⟩
theorem PN.XI (h:PN O w B1 lo G KK AA mk sk ma sa tk ta LS lv Mn nv n cs) (hb:Bd KK AA) {a:Option Addr} {m cap i:Nat} {x:Nat×Nat} (hx:AX O KK AA a m x) (hi:LS[i]? =some x):
  Calls Tryz.prog 93 #[.pointer (some ⟨G,0,none⟩),.slice a m cap] w λe w'=>(∃j:Nat,e=.returned (.int .i64 (j:Int))∧LS[j]? =some x)∧Kept (λ_=>True) w w':=by
 rcases hx with ⟨rfl,rfl⟩ | ⟨k,b,rfl,h1,h2,rfl⟩
 .refine (Hg a cap).mono ?_
  rintro e w' ⟨rfl,q⟩;exact ⟨⟨0,rfl,h.l0⟩,q⟩
 .refine (Hm h.z hb.na h1 h2 hi hb.la (by have:=hb.oa;omega) (by have:=hb.ok;omega)).mono ?_
  rintro e w' ⟨rfl,q⟩;exact ⟨⟨i,rfl,hi⟩,q⟩
end
theorem zz134 {P:Prop} (h:P:=by
 rintro e V' ⟨⟨j,rfl,hj⟩,k⟩;exact ⟨j,rfl,(List.getElem?_eq_some_iff.1 hj).1,k⟩):P:=h
theorem Oi:∀(m:Nat) (F:Fo) (n:Nat),F.size<=m->(Fit E F (rep (E 3) n)->fH F<=n+F.wt)∧(Fit E F (rep (E 2) n)->mh F<=n+F.wt):=by
 intro m
 induction m with
 | zero=>
  intro F n h
  cases F with
  | nil=>rw [kI,rT];exact ⟨λ_=>Nat.zero_le _,λ_=>Nat.zero_le _⟩
  | v x r=>simp only [Fo.size] at h;omega
  | s a n c ks r=>simp only [Fo.size] at h;omega
 | succ m ih=>
  intro F n h
  cases n with
  | zero=>exact ⟨λhf=>by rw [ai hf,kI];exact Nat.zero_le _,λhf=>by rw [ai hf,rT];exact Nat.zero_le _⟩
  | succ n=>
   refine ⟨λhf=>?_,λhf=>?_⟩
   .obtain ⟨x,q,rfl,hx,hq,hl⟩:=Fit.split (fs:=E 3) (gs:=rep (E 3) n) hf
    obtain ⟨k,nm,mn,la,ln,lc,lk,na,nn,nc,nk,ka,kn,kc,kk,aa,an,ac,ak,rfl,-,-,h3,h4,h5,h6⟩:=ag hx;simp only [Fo.app,Fo.size] at h;have i1:=(ih kk kn (by omega)).1 h5;have i2:=(ih ak an (by omega)).2 h6;have i3:=(ih q n (by omega)).1 hq;simp only [Fo.app,Fo.wt];rw [qp];omega
   .obtain ⟨x,q,rfl,hx,hq,hl⟩:=Fit.split (fs:=E 2) (gs:=rep (E 2) n) hf
    obtain ⟨au,ca,cn,cc,ck,y,rfl,-,-,hy⟩:=aK hx;obtain ⟨k,nm,mn,la,ln,lc,lk,na,nn,nc,nk,ka,kn,kc,kk,aa,an,ac,ak,rfl,-,-,h3,h4,h5,h6⟩:=ag hy;simp only [Fo.app,Fo.size] at h;have i1:=(ih kk kn (by omega)).1 h5;have i2:=(ih ak an (by omega)).2 h6;have i3:=(ih q n (by omega)).2 hq;simp only [Fo.app,Fo.wt];rw [Jy];omega
theorem IQ (b b':Nat):∀(n o o':Nat) (F:Fo),Fit E F (rep (E 3) n)->(aS b o F).map Nd.x=(aS b' o' F).map Nd.x
 | 0,o,o',F,h=>by rw [ai h];simp [aS]
 | n+1,o,o',F,h=>by
  obtain ⟨x,q,rfl,hx,hq,hl⟩:=Fit.split (fs:=E 3) (gs:=rep (E 3) n) h;have ih:=IQ b b' n (o+7) (o'+7) q hq;obtain ⟨k,nm,mn,la,ln,lc,lk,na,nn,nc,nk,ka,kn,kc,kk,aa,an,ac,ak,rfl,-⟩:=ag hx;simp only [Fo.app,aS,List.map_cons,ih]
theorem DR (b b':Nat):∀(n o o':Nat) (F:Fo),Fit E F (rep (E 2) n)->(aJ b o F).map Nd.x=(aJ b' o' F).map Nd.x
 | 0,o,o',F,h=>by rw [ai h];simp [aJ]
 | n+1,o,o',F,h=>by
  obtain ⟨x,q,rfl,hx,hq,hl⟩:=Fit.split (fs:=E 2) (gs:=rep (E 2) n) h;have ih:=DR b b' n (o+9) (o'+9) q hq;exact zz132
def BG (W Wg:World) (c:Nat):Prop:=c < Wg.heap.size∧c+4≠W.heap.size
structure GP (W Wg:World) (G:Nat) (P:Fo->Prop) (nl:Nat):Prop where
 fit:∀x,P x->Fit E x (E 3)
 subs:∀x,P x->x.av Wg (BG W Wg)
 wt:∀x,P x->x.wt<=1048576
 gK:∀x,P x->∀b o,∀e∈aS b o (kF x),P e.x
 gA:∀x,P x->∀b o,∀e∈aJ b o (aF x),P e.x
 cK:∀x,P x->∀cap V,Kept (BG W Wg) Wg V->Calls Tryz.prog 51 #[.pointer (some ⟨G,0,none⟩),.slice (kA x) (kN x) cap] V λe V'=>∃i:Nat,e=.returned (.int .i64 (i:Int))∧i < nl∧Kept (λ_=>True) V V'
 cA:∀x,P x->∀cap V,Kept (BG W Wg) Wg V->Calls Tryz.prog 93 #[.pointer (some ⟨G,0,none⟩),.slice (aA x) (aN x) cap] V λe V'=>∃i:Nat,e=.returned (.int .i64 (i:Int))∧i < nl∧Kept (λ_=>True) V V'
theorem GE.Rz {W Wg w:World} {rb G cp:Nat} {F:Fo} (h:GE W Wg rb F G) (ht:fH F<=4000000) (Rw:Fit E F (E 3)) (hb:Below Wg.heap.size Wg w) (e0:w.cell? ⟨cp,0,none⟩=some (.pointer (some ⟨G,0,none⟩))):
  ∃(g:Gr) (nb gy cn cm:Nat),g.cp=cp∧MG g w G nb gy cn cm∧(∀l,l < g.nl->g.sL l<=1048577)∧
   (∀V,Kept (BG W Wg) Wg V->Calls Tryz.prog 51 #[.pointer (some ⟨G,0,none⟩),.slice (some ⟨rb,0,none⟩) 1 1] V λe V'=>∃i:Nat,e=.returned (.int .i64 (i:Int))∧i < g.nl∧Kept (λ_=>True) V V')∧
   ∃P:Fo->Prop,P F∧GP W Wg G P g.nl:=by
 obtain ⟨O,A7,lo,wb,M0,KK,AA,KR,AR,mk,sk,ma,sa,tk,ta,LS,lv,nv,PQ,gi,np,⟨i0,r1,r2⟩,⟨j0,x0,q1,q2⟩,hO,SE,hlo⟩:=h;have hbo:=gi.bound.1;have hne:1<=(bY O KK KR++dw O AA AR).length:=by
  have h1:=gi.qV;have h2:=K.gL r1 (List.getElem?_eq_some_iff.1 r1).1;rw [List.length_append];dsimp only at h2;omega
 obtain ⟨nb,gy,cn,cm,mg⟩:=(np.keep hb).mg gi ht hne cp ((np.keep hb).wg gi ht SE hlo e0);have hhg:=np.hg;have hz:=np.be.size;have zp:=np.pn.z;have VK:G < Wg.heap.size:=block_lt_of_cell np.pn.c8;have Wo:M0 < Wg.heap.size:=by
  obtain ⟨es,c,h1,-⟩:=zp.ln.mp;exact (Array.getElem?_eq_some_iff.1 h1).1
 have hFB:∀c,FB KK AA mk sk ma sa tk ta c->BG W Wg c:=λc hc=>by
  refine ⟨zp.hb c hc,?_⟩;rcases hc with (e | e) | (e | e) | e | e | ⟨e,he,e'⟩ | ⟨e,he,e'⟩
  .rcases zp.gk.mp with ⟨-,h1⟩ | ⟨M,h1,-,h3⟩
   .rw [e] at h1;cases h1
   .rw [e] at h1;cases h1;omega
  .have:=az zp.gk.ow c e;omega
  .rcases zp.ga.mp with ⟨-,h1⟩ | ⟨M,h1,-,h3⟩
   .rw [e] at h1;cases h1
   .rw [e] at h1;cases h1;omega
  .have:=az zp.ga.ow c e;omega
  .omega
  .omega
  .have:=(gi.YG e he).2.2.1;omega
  .have:=(gi.YH e he).2.2.1;omega
 have WG:=λV (k:Kept (BG W Wg) Wg V)=>np.pn.UR k ⟨VK,by omega⟩ ⟨Wo,by omega⟩ (λc e=>by have:=World.ownsRow.lt zp.ln.ow c e;exact ⟨this.2,by omega⟩) (λc e=>by have:=World.ownsRow.lt np.pn.ow c e;exact ⟨this.2,by omega⟩) hFB
 have bd:=gi.Ij ht;have hdn:∀d∈bY O KK KR++dw O AA AR,Done O KK KR AA AR d.x:=λd hd=>by
  exact zz188
 have hrel:∀d∈bY O KK KR++dw O AA AR,∃(i j:Nat) (x y:Nat×Nat),LS[i]? =some x∧KX O KK (kA d.x) (kN d.x) x∧LS[j]? =some y∧AX O KK AA (aA d.x) (aN d.x) y:=λd hd=>by
  obtain ⟨k,hk⟩:=List.getElem?_of_mem hd;obtain ⟨p,hp⟩:∃p,PQ[k]? =some p:=⟨_,List.getElem?_eq_getElem (by rw [np.pq];exact (List.getElem?_eq_some_iff.1 hk).1)⟩
  obtain ⟨x,y,r⟩:=np.rel k d p hk hp;exact ⟨p.1,p.2,x,y,r⟩
 have inK:∀(i:Nat) e r,KK[i]? =some e->KR[i]? =some r->∀d∈aS e.1 (O e.1) r,d∈bY O KK KR++dw O AA AR:=λi e r h1 h2 d hd=>List.mem_append.2 (.inl (List.mem_flatMap.2 ⟨(e,r),List.mem_of_getElem? (nU h1 h2),hd⟩))
 have MM:∀(i:Nat) e r,AA[i]? =some e->AR[i]? =some r->∀d∈aJ e.1 (O e.1) r,d∈bY O KK KR++dw O AA AR:=λi e r h1 h2 d hd=>List.mem_append.2 (.inr (List.mem_flatMap.2 ⟨(e,r),List.mem_of_getElem? (nU h1 h2),hd⟩))
 refine ⟨_,nb,gy,cn,cm,rfl,mg,λl hl=>?_,λV kV=>?_,λx=>∃d∈bY O KK KR++dw O AA AR,d.x=x,⟨⟨rb,0,F⟩,?_,rfl⟩,?_⟩
 .have hx:LS[l]? =some LS[l]:=List.getElem?_eq_getElem hl
  rw [Dw hx];exact (Dx gi LS PQ cp (np.so _ (List.getElem_mem hl))).1
 .refine ((WG V kV).Tj bd q2 q1).mono ?_
  exact zz134
 .refine inK i0 _ _ r1 r2 _ ?_
  obtain ⟨k,nm,mn,la,ln,lc,lk,na,nn,nc,nk,ka,kn,kc,kk,aa,an,ac,ak,rfl,-⟩:=ag Rw;simp only [aS,hO];exact List.mem_cons_self
 .refine ⟨?_,?_,?_,?_,?_,?_,?_⟩
  .rintro x ⟨d,hd,rfl⟩;exact (gi.ok d hd).1.fit
  .rintro x ⟨d,hd,rfl⟩
   have sK:∀c,SB A7 lo G wb c->BG W Wg c:=λc hc=>by
    have:=hc.2.2.1
    exact ⟨by omega,by omega⟩
   refine (gi.ok d hd).1.subs.keep sK ?_;intro p hp v hv;have hl:p.block < W.heap.size:=by have:=hp.2.2.1;omega
   exact (np.be.cell hl).trans ((SE.cell hl).symm.trans hv)
  .rintro x ⟨d,hd,rfl⟩;exact gi.tw.d d hd
  .rintro x ⟨d,hd,rfl⟩ b o e he
   obtain ⟨kd,nm,mn,la,ln,lc,lk,na,nn,nc,nk,ka,kn,kc,kk,aa,an,ac,ak,hx,-,-,-,-,f5,-⟩:=ag (gi.ok d hd).1.fit;have dn:=hdn d hd;rw [hx] at he dn
   by_cases h0:0 < kn
   .obtain ⟨i,b',-,h2,h3⟩:=dn.k h0
    have hm:e.x∈(aS b' (O b') kk).map Nd.x:=by
     rw [<- IQ b b' kn o (O b') kk f5];exact List.mem_map.2 ⟨e,he,rfl⟩
    obtain ⟨e2,he2,e3⟩:=List.mem_map.1 hm;exact ⟨e2,inK i _ _ h2 h3 e2 he2,e3⟩
   .have e0:kn=0:=by omega
    subst e0;rw [show kF _=kk from rfl,ai f5] at he;simp [aS] at he
  .rintro x ⟨d,hd,rfl⟩ b o e he
   obtain ⟨kd,nm,mn,la,ln,lc,lk,na,nn,nc,nk,ka,kn,kc,kk,aa,an,ac,ak,hx,-,-,-,-,-,f6⟩:=ag (gi.ok d hd).1.fit;have dn:=hdn d hd;rw [hx] at he dn
   by_cases h0:0 < an
   .obtain ⟨i,b',-,h2,h3⟩:=dn.a h0
    have hm:e.x∈(aJ b' (O b') ak).map Nd.x:=by
     rw [<- DR b b' an o (O b') ak f6];exact List.mem_map.2 ⟨e,he,rfl⟩
    obtain ⟨e2,he2,e3⟩:=List.mem_map.1 hm;exact ⟨e2,MM i _ _ h2 h3 e2 he2,e3⟩
   .have e0:an=0:=by omega
    subst e0;rw [show aF _=ak from rfl,ai f6] at he;simp [aJ] at he
  .rintro x ⟨d,hd,rfl⟩ cap V kV
   obtain ⟨i,j,x,y,h1,h2,h3,h4⟩:=hrel d hd;refine ((WG V kV).Tj bd h2 h1).mono ?_;exact zz134
  .rintro x ⟨d,hd,rfl⟩ cap V kV
   obtain ⟨i,j,x,y,h1,h2,h3,h4⟩:=hrel d hd;refine ((WG V kV).XI bd h4 h3).mono ?_;exact zz134
theorem RT.make {W V:World} {lo rb:Nat} {F:Fo} (ho:Own lo W F) (hf:Fit E F (E 3)) (hw:F.wt<=1048576) (hb:Below W.heap.size W V) (bx:Bx V rb F.vals) (hr:W.heap.size<=rb) (h1:W.heap.size<=V.heap.size - 4) (h2:rb+4≠V.heap.size):RT V rb F:=by
 have hl:0 < F.len:=by have:=Fit.len hf;rw [this];decide
 have hin:∀c∈F.ah,c < W.heap.size:=λc hc=>(ho.subs.bu c hc).2
 have hf1:Fit E F (rep (E 3) 1):=hf;have htc:=(Oi _ F 1 (Nat.le_refl _)).1 hf1;have hsz:=hb.size;refine ⟨hf1,⟨⟨Nat.le_refl _,by decide,λ_=>⟨rb,0,rfl,bx.lt,λi v hv=>?_,?_⟩⟩,trivial⟩,?_,?_,by omega,by omega,?_⟩
 .rw [Nat.zero_add];exact bx.ae i v hv
 .exact (ho.subs.below hb (λ_ x=>x.2)).mono (λ_ x=>by have:=x.2;omega)
 .simp only [Fo.ah,List.append_nil]
  rw [aT hl];refine List.nodup_append.2 ⟨by simp,ho.nodup,λa ha b hb2 e=>?_⟩;have e1:a=rb:=by simpa using ha
  have:=hin b hb2
  omega
 .simp only [Fo.ah,List.append_nil]
  rw [aT hl];intro c hc j;rcases List.mem_append.1 hc with e | e
  .have e1:c=rb:=by simpa using e
   rw [e1];exact bx.live j
  .exact (hb.frozen (p:=⟨c,j,none⟩) (hin c e)).trans (ho.live c e j)
 .simp only [Fo.ah,List.append_nil]
  rw [aT hl];intro c hc;rcases List.mem_append.1 hc with e | e
  .have e1:c=rb:=by simpa using e
   omega
  .have:=hin c e
   have:=bx.lt
   omega
end Go.Proofs.YthfnobboalhihaaGreat
