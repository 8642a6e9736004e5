import Derived.Test.YthfnobboalhihaaGreatYg
set_option maxHeartbeats 8000000
set_option maxRecDepth 100000
namespace Go.Proofs.YthfnobboalhihaaGreat
open Go.RowKit Go.Joins
theorem zz89 {P:Prop} (h:P:=by
 go_wp2_with fail
 go_loopw [7] (λs7 wr=>s7=.int .i64 0∧wr=V) (λ_ _=>0)
 case atStart=>exact ⟨rfl,rfl⟩
 case round=>
  obtain ⟨rfl,hw⟩:=hrel;obtain rfl:V=wr:=hw.symm;exact zz143):P:=h
theorem zz143 {P:Prop} (h:P:=by
 go_wp2_with fail;exact bodyPost_end (results_none rfl _ _ _) rfl ⟨rfl,HF.out⟩):P:=h
variable {OK OA:Nat->Nat} {RG:Nat->Option Value}
def iQ (O:Nat->Nat) (b n:Nat):List (Nat×Nat):=(List.range n).map (λj=>(b,O b+j * 7))
theorem CR (O:Nat->Nat) (b n:Nat):iQ O b (n+1)=iQ O b n++[(b,O b+n * 7)]:=by simp [iQ,List.range_succ]
theorem Et (O:Nat->Nat) (b n:Nat):(iQ O b n).length=n:=by simp [iQ]
def QJ (OK OA:Nat->Nat) (RG:Nat->Option Value) (lo G wb fb:Nat) (V:World) (KK AA Q:List (Nat×Nat)) (ma sa:Value) (V':World):Prop:=
 ∃mk sk wv,St OK OA RG lo G wb fb V' KK AA Q mk sk ma sa wv∧Kept (λd=>d < lo∧d≠G∧d≠wb) V V'
theorem Ni {lo G wb fb:Nat} {V:World} {KK AA Q:List (Nat×Nat)} {mk sk ma sa wv:Value} (h:St OK OA RG lo G wb fb V KK AA Q mk sk ma sa wv) (a:Option Addr) (cap:Nat):
  Calls Tryz.prog 66 #[.pointer (some ⟨G,0,none⟩),.slice a 0 cap,pQ wb] V λe V'=>e=.returned (.tuple #[])∧QJ OK OA RG lo G wb fb V KK AA Q ma sa V':=by
 have HF:Hid (QJ OK OA RG lo G wb fb V KK AA Q ma sa V):=⟨mk,sk,wv,h,Kept.refl _ _⟩
 clear h;go_enter Tryz.func66,Tryz.ntmps66;exact zz89
def upto (KK:List (Nat×Nat)) (b j:Nat):List (Nat×Nat):=if j=0 then KK else KK++[(b,j)]
theorem zi (KK:List (Nat×Nat)) (b j:Nat):upto KK b (j+1)=KK++[(b,j+1)]:=if_neg (by omega)
theorem QK {lo G wb fb:Nat} {V:World} {KK AA Q:List (Nat×Nat)} {mk sk ma sa wv:Value} {b j i:Nat} {s6:Int} (hi:KK.length=i) (hs:(j=0∧s6=-1)∨(0 < j∧s6=i)) (h:St OK OA RG lo G wb fb V (upto KK b j) AA Q mk sk ma sa wv) (hb:∀e∈KK,e.1≠b) (lb:aO V b∧b < lo∧b≠G∧b≠wb) (hl:i<=10000000) (hj:j<=10000000):
  Calls Tryz.prog 100 #[.pointer (some ⟨G,0,none⟩),.pointer (some ⟨b,OK b+j * 7,none⟩),.int .i64 s6] V λe V'=>e=.returned (.agg #[.int .i64 i,.int .i64 j])∧∃M r cap,St OK OA RG lo G wb fb V' (KK++[(b,j+1)]) AA Q (.map (some M)) (.slice (some ⟨r,0,none⟩) (i+1) cap) ma sa wv∧Kept (λd=>d≠G∧mk≠.map (some d)∧sk.ownBlock≠some d) V V'∧(mk=.map (some M)∨V.heap.size<=M)∧(sk.ownBlock=some r∨V.heap.size<=r):=by
 have hwb:∀n,∀e∈KK++[(b,n)],e.1≠wb:=λn e he=>by
  rcases List.mem_append.1 he with he | he
  .refine h.hl.1 e ?_
   unfold upto
   split
   .exact he
   .exact List.mem_append.2 (.inl he)
  .have:e=(b,n):=by simpa using he
   rw [this];exact lb.2.2.2
 rcases hs with ⟨rfl,rfl⟩ | ⟨h0,rfl⟩
 .have hk:K.GS OK lo G V KK KK mk sk K.zf:=h.k
  have hz:OK b+0 * 7=OK b:=rfl;rw [hz];rcases hk.mp with ⟨h1,h2⟩ | ⟨M,h2,-,hM⟩
  .subst h2
   refine (K.CU hi hk hb ⟨lb.1,lb.2.1,lb.2.2.1⟩ hl).mono ?_;rintro e V' ⟨M,r,cap,rfl,g1,g2,g3,g4,g5⟩;have kk:Kept (λd=>d≠G∧Value.map none≠.map (some d)∧sk.ownBlock≠some d) V V':=g2.mono (λd _ x=>⟨x.1,x.2.2⟩);exact ⟨rfl,M,r,cap,St.Nj h g1 kk g3 (.inr g4) g5 (hwb 1),kk,.inr g4,g5⟩
  .subst h2
   refine (K.CV hi hk hb ⟨lb.1,lb.2.1,lb.2.2.1⟩ hl).mono ?_;rintro e V' ⟨r,cap,rfl,g1,g2,g3,-,g5⟩;have kk:Kept (λd=>d≠G∧Value.map (some M)≠.map (some d)∧sk.ownBlock≠some d) V V':=g2.mono (λd _ x=>⟨x.1,λe=>x.2.1 (by rw [e]),x.2.2⟩);exact ⟨rfl,M,r,cap,St.Nj h g1 kk g3 (.inl rfl) g5 (hwb 1),kk,.inl rfl,g5⟩
 .have hu:upto KK b j=KK++[(b,j)]:=if_neg (by omega)
  rw [hu] at h;have hk:=h.k;obtain ⟨r,cap,hsk,-,-,-⟩:=hk.slice (by simp);have hlen:(KK++[(b,j)]).length=i+1:=by simp [hi]
  rw [hlen] at hsk;subst hsk;rcases hk.mp with ⟨h1,-⟩ | ⟨M,h2,-,hM⟩
  .simp at h1
  .subst h2
   refine (K.CF hi hk hb hl hj).mono ?_;rintro e V' ⟨rfl,g1,g2⟩;have gM:M≠G:=by have:=hk.hg;omega
   have gr:r≠G:=by have:=hk.hg;have:=az hk.ow r rfl;omega
   have kk:Kept (λd=>d≠G∧Value.map (some M)≠.map (some d)∧(Value.slice (some ⟨r,0,none⟩) (i+1) cap).ownBlock≠some d) V V':=g2.mono (λd _ x=>⟨λe=>x.2.1 (by rw [e]),λe=>x.2.2 (by rw [e];rfl)⟩);have hc:∀q,q≠0->q≠1->V'.cell? ⟨G,q,none⟩=V.cell? ⟨G,q,none⟩:=λq _ _=>g2.cell (p:=⟨G,q,none⟩) (by have:=hk.hg;have:=hk.hv;show G < _;omega) ⟨λe=>gM e.symm,λe=>gr e.symm⟩
   exact ⟨rfl,M,r,cap,St.Nj h g1 kk hc (.inl rfl) (.inl rfl) (hwb _),kk,.inl rfl,.inl rfl⟩
theorem zz18 {P:Prop} (h:P:=by
 clear c0 c1 Nz Dc;obtain ⟨v6,hv6⟩:∃v6,(v5.setCell ⟨x,0,none⟩ (.int .i64 i)).setCell ⟨x,1,none⟩ (.int .i64 j)=v6:=⟨_,rfl⟩
 have Ic:=wX.out.put;rw [hv6] at Ic;rw [hv6];have Ie:=hide Ic;clear wX d0 d1 d2 d3 hv6 Ic;have e0:=Ie.out.bx.ae 0 _ rfl;have e1:=Ie.out.bx.ae 1 _ rfl;go_cut [48] (λs wx=>s=.bool false∧wx=v6)
 case first=>
  rcases HS.out with ⟨rfl,rfl⟩ | ⟨h0,rfl⟩
  .go_wp2_with fail
   go_meet
   case rel=>exact ⟨rfl,rfl⟩
  .have hii:(i:Int)>=0:=by omega
   go_wp2_with fail;go_meet
   case rel=>exact ⟨by simp,rfl⟩
 case rest=>
 obtain ⟨rfl,hw⟩:=hcut;have hw2:=hw.symm;subst hw2
 go_upto_region 12 with fail
 obtain ⟨r2,cap2,Yv,hen⟩:=Ie.out.end HI.out;have nJ:=hide hen;clear hen e0 e1;have k0:=(nJ.out v6 (Kept.refl _ _)).1;have k1:=(nJ.out v6.drew (Kept.drew _ _)).1;have KM:Hid ((j:Int)+((j:Int)+1 - (j:Int))=((j+1:Nat):Int)):=by unfold Hid;omega
 go_region
 all_goals
  go_wp2_with fail;go_simp;go_roundw
  case rel=>exact ⟨j+1,KM.out,by omega,by omega,(nJ.out _ (by first | exact Kept.drew _ _ | exact Kept.refl _ _)).2⟩
  case measure=>simp [intOf];omega):P:=h
theorem zz118 {P:Prop} (h:P:=by
 go_region
 all_goals
  go_wp2_with fail;go_meet
  case rel=>exact ⟨_,rfl,rfl,Nat.le_refl _,(Bx.new _ _ _).kept (Kept.drew (λ_=>True) _) trivial,(Kept.alloc _ _ _).trans (Kept.drew _ _)⟩):P:=h
theorem zz163 {P:Prop} (h:P:=by
 obtain ⟨M,r,cap,wv,h1,h2,h3,h4⟩:=h;exact ⟨M,r,cap,wv,h1.kept k,h2.kept k trivial,h3,h4.trans (k.mono (λ_ _ _=>trivial))⟩):P:=h
theorem zz214 {P:Prop} (h:P:=by
 have:r'=x:=Option.some.inj e
 rcases g3 with g3 | g3
 .exact hf.2.2 (by rw [g3,this])
 .omega):P:=h
variable {OK OA:Nat->Nat} {RG:Nat->Option Value}
theorem St.miss {lo G wb fb:Nat} {V:World} {KK AA Q:List (Nat×Nat)} {mk sk ma sa wv:Value} {b j:Nat} (h:St OK OA RG lo G wb fb V (upto KK b j) AA Q mk sk ma sa wv) (hb:∀e∈KK,e.1≠b) (lb:aO V b):
  (Instr.lookup 133 mk (.pointer (some ⟨b,OK b+j * 7,none⟩)) true).run Tryz.prog V=.ok (.tuple #[.agg #[.int .i64 0,.int .i64 0],.bool false]) V:=by
 rcases h.k.mp with ⟨-,h2⟩ | ⟨M,h2,hM,-⟩
 .subst h2
  exact MP.aa3 (b,OK b+j * 7) true
 .subst h2
  refine MP.WV hM (λp hp=>?_) (b,OK b+j * 7) lb ?_ true
  .obtain ⟨k,e,e1,e2,-⟩:=K.dG 0 _ p hp
   rw [e2];exact (h.k.lv e (List.mem_of_getElem? e1)).1
  .unfold upto
   split
   .exact K.wH hb _
   .exact K.nO hb
def PW (OK OA:Nat->Nat) (RG:Nat->Option Value) (lo G wb fb:Nat) (V:World) (KK AA Q:List (Nat×Nat)) (ma sa:Value) (b j i x:Nat) (W:World):Prop:=
 ∃M r cap wv,St OK OA RG lo G wb fb W (KK++[(b,j+1)]) AA (Q++iQ OK b (j+1)) (.map (some M)) (.slice (some ⟨r,0,none⟩) (i+1) cap) ma sa wv∧Bx W x [.int .i64 i,.int .i64 j]∧(lo<=x∧M≠x∧r≠x∧wv.ownBlock≠some x∧ma≠.map (some x)∧sa.ownBlock≠some x)∧Kept (λd=>d < lo∧d≠G∧d≠wb) V W
theorem PW.kept {lo G wb fb:Nat} {V:World} {KK AA Q:List (Nat×Nat)} {ma sa:Value} {b j i x:Nat} {W W':World} (h:PW OK OA RG lo G wb fb V KK AA Q ma sa b j i x W) (k:Kept (λ_=>True) W W'):PW OK OA RG lo G wb fb V KK AA Q ma sa b j i x W':=by
 exact zz163
theorem PW.put {lo G wb fb:Nat} {V:World} {KK AA Q:List (Nat×Nat)} {ma sa:Value} {b j i x:Nat} {W:World} (h:PW OK OA RG lo G wb fb V KK AA Q ma sa b j i x W):PW OK OA RG lo G wb fb V KK AA Q ma sa b j i x ((W.setCell ⟨x,0,none⟩ (.int .i64 i)).setCell ⟨x,1,none⟩ (.int .i64 j)):=by
 obtain ⟨M,r,cap,wv,h1,h2,h3,h4⟩:=h;have k5:Kept (λd=>d≠x) W ((W.setCell ⟨x,0,none⟩ (.int .i64 i)).setCell ⟨x,1,none⟩ (.int .i64 j)):=((Kept.refl _ _).set (by simp)).set (by simp);refine ⟨M,r,cap,wv,h1.off k5 h3.1 (λe=>h3.2.1 (by cases e;rfl)) h3.2.2.2.2.1 (λe=>h3.2.2.1 (Option.some.inj e)) h3.2.2.2.2.2 h3.2.2.2.1,?_,h3,h4.trans (k5.mono (λd _ hd=>by have:=hd.1;have:=h3.1;omega))⟩;exact (h2.put 0 (.int .i64 i) (by simp)).put 1 (.int .i64 j) (by simp)
theorem Jg {lo G wb fb:Nat} {V v1 v2:World} {KK AA Q:List (Nat×Nat)} {mk sk ma sa wv:Value} {b j i x M r cap:Nat} (h:St OK OA RG lo G wb fb v1 (upto KK b j) AA Q mk sk ma sa wv) (hx:lo<=x) (hxl:x < v1.heap.size) (hf:mk≠.map (some x)∧ma≠.map (some x)∧sk.ownBlock≠some x∧sa.ownBlock≠some x∧wv.ownBlock≠some x) (bx:Bx v1 x [.int .i64 0,.int .i64 0]) (hk:Kept (λd=>d < lo∧d≠G∧d≠wb) V v1)
  (g1:St OK OA RG lo G wb fb v2 (KK++[(b,j+1)]) AA Q (.map (some M)) (.slice (some ⟨r,0,none⟩) (i+1) cap) ma sa wv) (g2:Kept (λd=>d≠G∧mk≠.map (some d)∧sk.ownBlock≠some d) v1 v2) (g3:mk=.map (some M)∨v1.heap.size<=M) (g4:sk.ownBlock=some r∨v1.heap.size<=r):
  Bx v2 x [.int .i64 0,.int .i64 0]∧St OK OA RG lo G wb fb ((v2.setCell ⟨x,0,none⟩ (.int .i64 i)).setCell ⟨x,1,none⟩ (.int .i64 j)) (KK++[(b,j+1)]) AA Q (.map (some M)) (.slice (some ⟨r,0,none⟩) (i+1) cap) ma sa wv∧Bx ((v2.setCell ⟨x,0,none⟩ (.int .i64 i)).setCell ⟨x,1,none⟩ (.int .i64 j)) x [.int .i64 i,.int .i64 j]∧(M≠x∧r≠x)∧Kept (λd=>d < lo∧d≠G∧d≠wb) V ((v2.setCell ⟨x,0,none⟩ (.int .i64 i)).setCell ⟨x,1,none⟩ (.int .i64 j))∧v1.heap.size<=((v2.setCell ⟨x,0,none⟩ (.int .i64 i)).setCell ⟨x,1,none⟩ (.int .i64 j)).heap.size:=by
 have hG:=h.k.hg;have k5:Kept (λd=>d≠x) v2 ((v2.setCell ⟨x,0,none⟩ (.int .i64 i)).setCell ⟨x,1,none⟩ (.int .i64 j)):=((Kept.refl _ _).set (by simp)).set (by simp);have eM:M≠x:=λe=>by
  rcases g3 with g3 | g3
  .exact hf.1 (by rw [g3,e])
  .omega
 have er:r≠x:=λe=>by
  rcases g4 with g4 | g4
  .exact hf.2.2.1 (by rw [g4,e])
  .omega
 have b2:=bx.kept g2 ⟨by omega,hf.1,hf.2.2.1⟩;have low:∀d,d < lo->d≠G->d≠G∧mk≠.map (some d)∧sk.ownBlock≠some d:=λd hd hg=>⟨hg,λe=>by have:=(h.apart.2.1 d e).2.2;omega,λe=>by have:=az h.k.ow d e;omega⟩
 refine ⟨b2,g1.off k5 hx (λe=>eM (by cases e;rfl)) hf.2.1 (λe=>er (Option.some.inj e)) hf.2.2.2.1 hf.2.2.2.2,(b2.put 0 (.int .i64 i) (by simp)).put 1 (.int .i64 j) (by simp),⟨eM,er⟩,(hk.trans (g2.mono (λd _ hd=>low d hd.1 hd.2.1))).trans (k5.mono (λd _ hd=>by have:=hd.1;omega)),Nat.le_trans g2.size k5.size⟩
theorem Gc {lo G wb fb:Nat} {V v3 v4:World} {KK AA Q:List (Nat×Nat)} {ma sa wv:Value} {b j i x M r cap r' cap' n':Nat} (h:St OK OA RG lo G wb fb v3 (KK++[(b,j+1)]) AA (Q++iQ OK b j) (.map (some M)) (.slice (some ⟨r,0,none⟩) (i+1) cap) ma sa wv) (hx:lo<=x) (hxl:x < v3.heap.size) (hf:ma≠.map (some x)∧sa.ownBlock≠some x∧wv.ownBlock≠some x) (hm:M≠x∧r≠x) (bx:Bx v3 x [.int .i64 i,.int .i64 j]) (hk:Kept (λd=>d < lo∧d≠G∧d≠wb) V v3)
  (g1:St OK OA RG lo G wb fb v4 (KK++[(b,j+1)]) AA (Q++iQ OK b j++[(b,OK b+j * 7)]) (.map (some M)) (.slice (some ⟨r,0,none⟩) (i+1) cap) ma sa (.slice (some ⟨r',0,none⟩) n' cap')) (g2:Kept (λd=>wv.ownBlock≠some d∧d≠wb) v3 v4) (g3:wv.ownBlock=some r'∨v3.heap.size<=r'):PW OK OA RG lo G wb fb V KK AA Q ma sa b j i x v4:=by
 refine ⟨M,r,cap,_,by rw [CR,<- List.append_assoc];exact g1,bx.kept g2 ⟨hf.2.2,by have:=h.hw.1;omega⟩,⟨hx,hm.1,hm.2,λe=>?_,hf.1,hf.2.1⟩,hk.trans (g2.mono (λd _ hd=>⟨λe=>by have:=az h.q d e;omega,hd.2.2⟩))⟩;exact zz214
theorem PW.bx {lo G wb fb:Nat} {V:World} {KK AA Q:List (Nat×Nat)} {ma sa:Value} {b j i x:Nat} {W:World} (h:PW OK OA RG lo G wb fb V KK AA Q ma sa b j i x W):Bx W x [.int .i64 i,.int .i64 j]:=by
 obtain ⟨M,r,cap,wv,h1,h2,h3,h4⟩:=h;exact h2
theorem PW.whole {lo G wb fb:Nat} {V:World} {KK AA Q:List (Nat×Nat)} {ma sa:Value} {b j i x:Nat} {W:World} (h:PW OK OA RG lo G wb fb V KK AA Q ma sa b j i x W) (hi:KK.length=i) (hl:i < 10000000):
  Calls Tryz.prog 101 #[.pointer (some ⟨G,0,none⟩),.agg #[.int .i64 i,.int .i64 j]] W λe V'=>e=.returned (.agg #[.int .i64 i,.int .i64 j])∧PW OK OA RG lo G wb fb V KK AA Q ma sa b j i x V':=by
 obtain ⟨M,r,cap,wv,h1,h2,h3,h4⟩:=id h;refine (K.nT h1.k i j (by simp [hi]) (by simp [hi];omega)).mono ?_;rintro e V' ⟨rfl,k⟩;exact ⟨rfl,h.kept k⟩
theorem PW.end {lo G wb fb:Nat} {V:World} {KK AA Q:List (Nat×Nat)} {ma sa:Value} {b j i x:Nat} {W:World} (h:PW OK OA RG lo G wb fb V KK AA Q ma sa b j i x W) (hi:KK.length=i):
  ∃r cap,i < cap∧∀W',Kept (λ_=>True) W W'->(W'.cell? ⟨G,1,none⟩=some (.slice (some ⟨r,0,none⟩) (i+1) cap)∧W'.cell? ⟨r,i * 5+3,none⟩=some (.int .i64 ((j:Int)+1))∧W'.cell? ⟨x,1,none⟩=some (.int .i64 j))∧∃mk sk wv,St OK OA RG lo G wb fb W' (upto KK b (j+1)) AA (Q++iQ OK b (j+1)) mk sk ma sa wv∧Kept (λd=>d < lo∧d≠G∧d≠wb) V W':=by
 obtain ⟨M,r,cap,wv,h1,h2,h3,h4⟩:=h;have hc:i < cap:=by
  have ho:=h1.k.ow;rw [List.length_append,hi] at ho
  have:=ownsRow_le ho
  omega
 refine ⟨r,cap,hc,λW' k=>?_⟩;have h1':=h1.kept k;have ho:=h1'.k.ow;rw [List.length_append,hi] at ho;have he:(KK++[(b,j+1)])[i]? =some (b,j+1):=by rw [List.getElem?_append_right (by omega)];simp [hi]
 refine ⟨⟨h1'.k.gs,?_,(h2.kept k trivial).ae 1 _ rfl⟩,_,_,_,by rw [zi];exact h1',h4.trans (k.mono (λ_ _ _=>trivial))⟩
 have:=aL ho (i * 5+3) _ (K.bO K.zf he (j:=3) rfl)
 rw [this,Int.natCast_add];rfl
def AR (OK OA:Nat->Nat) (RG:Nat->Option Value) (lo G wb fb:Nat) (V:World) (KK AA Q:List (Nat×Nat)) (ma sa:Value) (b j:Nat) (W:World):Prop:=
 ∃mk sk wv,St OK OA RG lo G wb fb W (upto KK b j) AA (Q++iQ OK b j) mk sk ma sa wv∧Kept (λd=>d < lo∧d≠G∧d≠wb) V W
theorem Sg {lo G wb fb:Nat} {V:World} {KK AA Q:List (Nat×Nat)} {mk sk ma sa wv:Value} {b n cap i:Nat} (hi:KK.length=i) (h:St OK OA RG lo G wb fb V KK AA Q mk sk ma sa wv) (hb:∀e∈KK,e.1≠b) (lb:aO V b∧b < lo∧b≠G∧b≠wb) (hl:i < 10000000) (hn:n<=10000000) (hq:Q.length+n<=10000000) (hcap:n<=cap):
  Calls Tryz.prog 66 #[.pointer (some ⟨G,0,none⟩),.slice (some ⟨b,OK b,none⟩) n cap,pQ wb] V λe V'=>e=.returned (.tuple #[])∧QJ OK OA RG lo G wb fb V (upto KK b n) AA (Q++iQ OK b n) ma sa V':=by
 have Va:Hid (AR OK OA RG lo G wb fb V KK AA Q ma sa b 0 V):=⟨mk,sk,wv,by rw [show iQ OK b 0=[] from rfl,List.append_nil];exact h,Kept.refl _ _⟩
 have HB:=hide hb;have sW:=hide lb;have HI:=hide hi;have HQ:=hide hq;clear h hb lb hi hq;go_enter Tryz.func66,Tryz.ntmps66;go_wp2_with fail
 go_loopw [6,7] (λs6 s7 wr=>∃(j:Nat) (s:Int),s7=.int .i64 j∧s6=.int .i64 s∧j<=n∧((j=0∧s=-1)∨(0 < j∧s=i))∧Hid (AR OK OA RG lo G wb fb V KK AA Q ma sa b j wr)) (λ_ s7 _=>n - (intOf s7).toNat)
 case atStart=>exact ⟨0,-1,rfl,rfl,Nat.zero_le _,.inl ⟨rfl,rfl⟩,Va⟩
 case round=>
  obtain ⟨j,s,rfl,rfl,hjn,hs,har⟩:=hrel;have HS:=hide hs;clear hs
  by_cases hj:j < n
  .have hjj:(j:Int) < n:=by omega
   have hjc:j < cap:=by omega
   obtain ⟨mk1,sk1,wv1,hst,hk⟩:=har.out;clear har;have HST:=hide hst;have HK:=hide hk;have fE:Hid (aO wr b):=sW.out.1.kept hk sW.out.1.lt sW.out.2;clear hst hk;have gQ:Hid (∀V',Kept (λ_=>True) wr V'->V'.cell? ⟨G,0,none⟩=some mk1∧(Instr.lookup 133 mk1 (.pointer (some ⟨b,OK b+j * 7,none⟩)) true).run Tryz.prog V'=.ok (.tuple #[.agg #[.int .i64 0,.int .i64 0],.bool false]) V'):=λV' k=>by
    have h':=HST.out.kept k;exact ⟨h'.k.gm,h'.miss HB.out (fE.out.all k)⟩
   have k0:=gQ.out wr (Kept.refl _ _);have k1:=gQ.out wr.drew (Kept.drew _ _);have k2:=gQ.out (wr.alloc (.cells #[.int .i64 0,.int .i64 0] 182)) (Kept.alloc _ _ _);have k3:=gQ.out (wr.alloc (.cells #[.int .i64 0,.int .i64 0] 182)).drew ((Kept.alloc _ _ _).trans (Kept.drew _ _))
   go_upto_region 3 with fail
   go_cut [8,9] (λs8 s9 wx=>∃x,s8=.pointer (some ⟨x,0,none⟩)∧s9=.bool false∧wr.heap.size<=x∧Bx wx x [.int .i64 0,.int .i64 0]∧Kept (λ_=>True) wr wx)
   case first=>
    exact zz118
   case rest=>
   obtain ⟨x,rfl,rfl,hx,hbx,hcb⟩:=hcut
   rename World=>v1
   have hfr:=HST.out.fresh hx;have Ez:lo<=x:=Nat.le_trans HST.out.k.hv hx;have Da:Hid (lo<=x∧x < v1.heap.size):=⟨Ez,hbx.lt⟩
   have Db:=hide hfr;have x9:=hide hbx;have nE:=hide (HST.out.kept hcb);have fU:=hide (HK.out.trans (hcb.mono (λ_ _ _=>trivial)));have HP:=hide (QK HI.out HS.out nE.out HB.out ⟨fE.out.all hcb,sW.out.2⟩ (Nat.le_of_lt hl) (by omega));clear hfr hbx hcb hx Ez k0 k1 k2 k3 gQ
   go_upto_region 5 with fail
   go_upto_region 6 with (go_at_call 100;refine HP.out.mono ?_;rintro e v2 ⟨rfl,M,r,Tp,g1,g2,g3,g4⟩;have kJ:=hide (Jg nE.out Da.out.1 Da.out.2 Db.out x9.out fU.out g1 g2 g3 g4);have c0:=kJ.out.1.ae 0 _ rfl;have c1:=kJ.out.1.ae 1 _ rfl;have c2:=kJ.out.1.live 0;have c3:=kJ.out.1.live 1;clear g1 g2 g3 g4)
   have ni:Hid ((Q++iQ OK b j).length<=10000000):=by unfold Hid;rw [List.length_append,Et];have:=HQ.out;omega
   obtain ⟨v3,hv3⟩:∃v3,(v2.setCell ⟨x,0,none⟩ (.int .i64 i)).setCell ⟨x,1,none⟩ (.int .i64 j)=v3:=⟨_,rfl⟩
   have hpr:=kJ.out.2;rw [hv3] at hpr;rw [hv3];clear kJ c0 c1 c2 c3 hv3;have kJ:=hide hpr;clear hpr HP x9 nE fU;have HW:=hide (DU kJ.out.1 (b,OK b+j * 7) ni.out)
   go_upto_region 7 with (refine HW.out.mono ?_;rintro e v4 ⟨rfl,r',cap',g1,g2,g3⟩;have Dc:=hide (Gc kJ.out.1 Da.out.1 (Nat.lt_of_lt_of_le Da.out.2 kJ.out.2.2.2.2) ⟨Db.out.2.1,Db.out.2.2.2.1,Db.out.2.2.2.2⟩ kJ.out.2.2.1 kJ.out.2.1 kJ.out.2.2.2.1 g1 g2 g3);clear g1 g2 g3)
   clear HW kJ;have c0:=Dc.out.bx.ae 0 _ rfl;have c1:=Dc.out.bx.ae 1 _ rfl;have Nz:=hide (Dc.out.whole HI.out (by omega))
   go_upto_region 8 with (go_at_call 101;refine Nz.out.mono ?_;rintro e v5 ⟨rfl,g1⟩;have wX:=hide g1;clear g1;have d0:=wX.out.bx.ae 0 _ rfl;have d1:=wX.out.bx.ae 1 _ rfl;have d2:=wX.out.bx.live 0;have d3:=wX.out.bx.live 1)
   exact zz18
  .obtain rfl:j=n:=by omega
   have hjj:¬(j:Int) < j:=by omega
   have HF:Hid (QJ OK OA RG lo G wb fb V (upto KK b j) AA (Q++iQ OK b j) ma sa wr):=har.out;clear har;exact zz143
variable {OK OA:Nat->Nat} {RG:Nat->Option Value}
theorem St.Qq {lo G wb fb:Nat} {V:World} {KK AA Q:List (Nat×Nat)} {mk sk ma sa wv:Value} (h:St OK OA RG lo G wb fb V KK AA Q mk sk ma sa wv) {V':World} {Dp:List (Nat×Nat)} {M r n cap:Nat} (g:A.GS OA lo G V' Dp Dp (.map (some M)) (.slice (some ⟨r,0,none⟩) n cap) A.zf) (k:Kept (λd=>d≠G∧ma≠.map (some d)∧sa.ownBlock≠some d) V V') (hc:∀j,j≠4->j≠5->V'.cell? ⟨G,j,none⟩=V.cell? ⟨G,j,none⟩) (hM:ma=.map (some M)∨V.heap.size<=M) (hr:sa.ownBlock=some r∨V.heap.size<=r) (hl':∀e∈Dp,e.1≠wb):
  St OK OA RG lo G wb fb V' KK Dp Q mk sk (.map (some M)) (.slice (some ⟨r,0,none⟩) n cap) wv:=by
 obtain ⟨a1,a2,a3⟩:=h.apart;have Fj:∀d,mk=.map (some d)->d < V.heap.size:=λd e=>by
  rcases h.k.mp with ⟨-,h1⟩ | ⟨M,h1,h2,-⟩
  .rw [e] at h1;cases h1
  .rw [e] at h1;cases h1;exact h2.lt
 have Fq:∀d,sk.ownBlock=some d->d < V.heap.size:=λd e=>by
  obtain ⟨cur,h1⟩:=eQ h.k.ow d e;exact (Array.getElem?_eq_some_iff.1 h1).1
 have lw:∀d,d < lo->d≠G->d≠G∧ma≠.map (some d)∧sa.ownBlock≠some d:=λd hd hG=>⟨hG,λe=>by have:=(a3 d e).2.2;omega,λe=>by have:=az h.a.ow d e;omega⟩
 refine ⟨h.k.frame k (λe he=>lw e.1 (h.k.lv e he).2.1 (h.k.lv e he).2.2) (λd hd=>?_) ((hc 0 (by omega) (by omega)).trans h.k.gm) ((hc 1 (by omega) (by omega)).trans h.k.gs) g.gf,g,h.w.kept k (lw wb h.hw.1 h.hw.2),h.f.kept k (lw fb h.hf.1 h.hf.2.1),aj h.q k (λb e=>?_),λM' e e'=>?_,λb e e'=>?_,h.hw,h.hf,⟨h.hl.1,hl'⟩,λj a b c d=>(hc j c d).trans (h.rg j a b c d)⟩
 .rcases hd with h1 | h1
  .exact ⟨by have:=(a2 d h1).2.2;have:=h.k.hg;omega,λe=>h.dM d h1 e,(a2 d h1).2.1⟩
  .exact ⟨by have:=az h.k.ow d h1;have:=h.k.hg;omega,λe=>(a3 d e).1 h1,λe=>h.dS d h1 e⟩
 .obtain ⟨x1,x2,x3,x4,x5⟩:=a1 b e
  exact ⟨by have:=h.k.hg;omega,x2,x4⟩
 .cases e'
  rcases hM with hM | hM
  .exact h.dM M e hM
  .have:=Fj M e;omega
 .have eb:r=b:=Option.some.inj e'
  subst eb;rcases hr with hr | hr
  .exact h.dS r e hr
  .have:=Fq r e;omega
def Ib (fb:Nat):Value:=.func (.func 68) #[] #[.pointer (some ⟨fb,0,none⟩)]
theorem Ny {lo G wb fb:Nat} {V:World} {KK AA Q:List (Nat×Nat)} {mk sk ma sa wv:Value} (h:St OK OA RG lo G wb fb V KK AA Q mk sk ma sa wv) (b o:Nat) (hq:Q.length<=10000000):
  Calls Tryz.prog 68 #[.pointer (some ⟨b,o,none⟩),.pointer (some ⟨fb,0,none⟩)] V λe V'=>e=.returned (.tuple #[])∧∃r cap,St OK OA RG lo G wb fb V' KK AA (Q++[(b,o+2)]) mk sk ma sa (.slice (some ⟨r,0,none⟩) (Q.length+1) cap)∧Kept (λd=>wv.ownBlock≠some d∧d≠wb) V V'∧(wv.ownBlock=some r∨V.heap.size<=r):=by
 have c0:=h.f.ae 0 _ rfl;have c1:V.drew.cell? ⟨fb,0,none⟩=some (pQ wb):=c0;have HW:=hide (DU h (b,o+2) hq);have HWD:Hid (Calls Tryz.prog 65 #[.pointer (some ⟨b,o+2,none⟩),.pointer (some ⟨wb,0,none⟩)] V.drew λe V'=>e=.returned (.tuple #[])∧∃r cap,St OK OA RG lo G wb fb V' KK AA (Q++[(b,o+2)]) mk sk ma sa (.slice (some ⟨r,0,none⟩) (Q.length+1) cap)∧Kept (λd=>wv.ownBlock≠some d∧d≠wb) V V'∧(wv.ownBlock=some r∨V.heap.size<=r)):=
  (DU (h.kept (Kept.drew _ _)) (b,o+2) hq).mono (by
   rintro e V' ⟨rfl,r,cap,g1,g2,g3⟩;exact ⟨rfl,r,cap,g1,(Kept.drew _ _).trans g2,g3⟩)
 clear h hq;unfold pQ at c0 c1;go_enter Tryz.func68,Tryz.ntmps68
 go_upto_region 0 with fail
 go_region_with (first | (refine HW.out.mono ?_;rintro e v2 ⟨rfl,g1⟩;have HG:=hide g1;clear g1) | (refine HWD.out.mono ?_;rintro e v2 ⟨rfl,g1⟩;have HG:=hide g1;clear g1))
 all_goals
  go_wp2_with fail;exact bodyPost_end (results_none rfl _ _ _) rfl ⟨rfl,HG.out⟩
def iR (O:Nat->Nat) (b n:Nat):List (Nat×Nat):=(List.range n).map (λj=>(b,O b+j * 9+2))
theorem C9 (O:Nat->Nat) (b n:Nat):iR O b (n+1)=iR O b n++[(b,O b+n * 9+2)]:=by simp [iR,List.range_succ]
theorem EA (O:Nat->Nat) (b n:Nat):(iR O b n).length=n:=by simp [iR]
def Rc (OK OA:Nat->Nat) (RG:Nat->Option Value) (lo G wb fb:Nat) (V:World) (KK AA Q:List (Nat×Nat)) (mk sk:Value) (V':World):Prop:=
 ∃ma sa wv,St OK OA RG lo G wb fb V' KK AA Q mk sk ma sa wv∧Kept (λd=>d < lo∧d≠G∧d≠wb) V V'
theorem OV {lo G wb fb:Nat} {V:World} {KK AA Q:List (Nat×Nat)} {mk sk ma sa wv:Value} (h:St OK OA RG lo G wb fb V KK AA Q mk sk ma sa wv) (a:Option Addr) (cap:Nat):
  Calls Tryz.prog 67 #[.pointer (some ⟨G,4,none⟩),.slice a 0 cap,Ib fb] V λe V'=>e=.returned (.tuple #[])∧Rc OK OA RG lo G wb fb V KK AA Q mk sk V':=by
 have HF:Hid (Rc OK OA RG lo G wb fb V KK AA Q mk sk V):=⟨ma,sa,wv,h,Kept.refl _ _⟩
 clear h;go_enter Tryz.func67,Tryz.ntmps67;exact zz89
theorem Re {lo G wb fb:Nat} {V:World} {KK AA Q:List (Nat×Nat)} {mk sk ma sa wv:Value} {b j i:Nat} {s6:Int} (hi:AA.length=i) (hs:(j=0∧s6=-1)∨(0 < j∧s6=i)) (h:St OK OA RG lo G wb fb V KK (upto AA b j) Q mk sk ma sa wv) (hb:∀e∈AA,e.1≠b) (lb:aO V b∧b < lo∧b≠G∧b≠wb) (hl:i<=10000000) (hj:j<=10000000):
  Calls Tryz.prog 103 #[.pointer (some ⟨G,4,none⟩),.pointer (some ⟨b,OA b+j * 9,none⟩),.int .i64 s6] V λe V'=>e=.returned (.agg #[.int .i64 i,.int .i64 j])∧∃M r cap,St OK OA RG lo G wb fb V' KK (AA++[(b,j+1)]) Q mk sk (.map (some M)) (.slice (some ⟨r,0,none⟩) (i+1) cap) wv∧Kept (λd=>d≠G∧ma≠.map (some d)∧sa.ownBlock≠some d) V V'∧(ma=.map (some M)∨V.heap.size<=M)∧(sa.ownBlock=some r∨V.heap.size<=r):=by
 have hwb:∀n,∀e∈AA++[(b,n)],e.1≠wb:=λn e he=>by
  rcases List.mem_append.1 he with he | he
  .refine h.hl.2 e ?_
   unfold upto
   split
   .exact he
   .exact List.mem_append.2 (.inl he)
  .have:e=(b,n):=by simpa using he
   rw [this];exact lb.2.2.2
 rcases hs with ⟨rfl,rfl⟩ | ⟨h0,rfl⟩
 .have hk:A.GS OA lo G V AA AA ma sa A.zf:=h.a
  have hz:OA b+0 * 9=OA b:=rfl;rw [hz];rcases hk.mp with ⟨h1,h2⟩ | ⟨M,h2,-,hM⟩
  .subst h2
   refine (A.CU hi hk hb ⟨lb.1,lb.2.1,lb.2.2.1⟩ hl).mono ?_;rintro e V' ⟨M,r,cap,rfl,g1,g2,g3,g4,g5⟩;have kk:Kept (λd=>d≠G∧Value.map none≠.map (some d)∧sa.ownBlock≠some d) V V':=g2.mono (λd _ x=>⟨x.1,x.2.2⟩);exact ⟨rfl,M,r,cap,St.Qq h g1 kk g3 (.inr g4) g5 (hwb 1),kk,.inr g4,g5⟩
  .subst h2
   refine (A.CV hi hk hb ⟨lb.1,lb.2.1,lb.2.2.1⟩ hl).mono ?_;rintro e V' ⟨r,cap,rfl,g1,g2,g3,-,g5⟩;have kk:Kept (λd=>d≠G∧Value.map (some M)≠.map (some d)∧sa.ownBlock≠some d) V V':=g2.mono (λd _ x=>⟨x.1,λe=>x.2.1 (by rw [e]),x.2.2⟩);exact ⟨rfl,M,r,cap,St.Qq h g1 kk g3 (.inl rfl) g5 (hwb 1),kk,.inl rfl,g5⟩
 .have hu:upto AA b j=AA++[(b,j)]:=if_neg (by omega)
  rw [hu] at h;have hk:=h.a;obtain ⟨r,cap,hsk,-,-,-⟩:=hk.slice (by simp);have hlen:(AA++[(b,j)]).length=i+1:=by simp [hi]
  rw [hlen] at hsk;subst hsk;rcases hk.mp with ⟨h1,-⟩ | ⟨M,h2,-,hM⟩
  .simp at h1
  .subst h2
   refine (A.CF hi hk hb hl hj).mono ?_;rintro e V' ⟨rfl,g1,g2⟩;have gM:M≠G:=by have:=hk.hg;omega
   have gr:r≠G:=by have:=hk.hg;have:=az hk.ow r rfl;omega
   have kk:Kept (λd=>d≠G∧Value.map (some M)≠.map (some d)∧(Value.slice (some ⟨r,0,none⟩) (i+1) cap).ownBlock≠some d) V V':=g2.mono (λd _ x=>⟨λe=>x.2.1 (by rw [e]),λe=>x.2.2 (by rw [e];rfl)⟩);have hc:∀q,q≠4->q≠5->V'.cell? ⟨G,q,none⟩=V.cell? ⟨G,q,none⟩:=λq _ _=>g2.cell (p:=⟨G,q,none⟩) (by have:=hk.hg;have:=hk.hv;show G < _;omega) ⟨λe=>gM e.symm,λe=>gr e.symm⟩
   exact ⟨rfl,M,r,cap,St.Qq h g1 kk hc (.inl rfl) (.inl rfl) (hwb _),kk,.inl rfl,.inl rfl⟩
variable {OK OA:Nat->Nat} {RG:Nat->Option Value}
theorem St.Ia {lo G wb fb:Nat} {V:World} {KK AA Q:List (Nat×Nat)} {mk sk ma sa wv:Value} {b j:Nat} (h:St OK OA RG lo G wb fb V KK (upto AA b j) Q mk sk ma sa wv) (hb:∀e∈AA,e.1≠b) (lb:aO V b):
  (Instr.lookup 136 ma (.pointer (some ⟨b,OA b+j * 9,none⟩)) true).run Tryz.prog V=.ok (.tuple #[.agg #[.int .i64 0,.int .i64 0],.bool false]) V:=by
 rcases h.a.mp with ⟨-,h2⟩ | ⟨M,h2,hM,-⟩
 .subst h2
  exact MP.Yr (b,OA b+j * 9) true
 .subst h2
  refine MP.Ia hM (λp hp=>?_) (b,OA b+j * 9) lb ?_ true
  .obtain ⟨k,e,e1,e2,-⟩:=A.dG 0 _ p hp
   rw [e2];exact (h.a.lv e (List.mem_of_getElem? e1)).1
  .unfold upto
   split
   .exact A.wH hb _
   .exact A.nO hb
def PA (OK OA:Nat->Nat) (RG:Nat->Option Value) (lo G wb fb:Nat) (V:World) (KK AA Q:List (Nat×Nat)) (mk sk:Value) (b j i x:Nat) (W:World):Prop:=
 ∃M r cap wv,St OK OA RG lo G wb fb W KK (AA++[(b,j+1)]) (Q++iR OA b (j+1)) mk sk (.map (some M)) (.slice (some ⟨r,0,none⟩) (i+1) cap) wv∧Bx W x [.int .i64 i,.int .i64 j]∧(lo<=x∧M≠x∧r≠x∧wv.ownBlock≠some x∧mk≠.map (some x)∧sk.ownBlock≠some x)∧Kept (λd=>d < lo∧d≠G∧d≠wb) V W
theorem PA.kept {lo G wb fb:Nat} {V:World} {KK AA Q:List (Nat×Nat)} {mk sk:Value} {b j i x:Nat} {W W':World} (h:PA OK OA RG lo G wb fb V KK AA Q mk sk b j i x W) (k:Kept (λ_=>True) W W'):PA OK OA RG lo G wb fb V KK AA Q mk sk b j i x W':=by
 exact zz163
theorem PA.put {lo G wb fb:Nat} {V:World} {KK AA Q:List (Nat×Nat)} {mk sk:Value} {b j i x:Nat} {W:World} (h:PA OK OA RG lo G wb fb V KK AA Q mk sk b j i x W):PA OK OA RG lo G wb fb V KK AA Q mk sk b j i x ((W.setCell ⟨x,0,none⟩ (.int .i64 i)).setCell ⟨x,1,none⟩ (.int .i64 j)):=by
 obtain ⟨M,r,cap,wv,h1,h2,h3,h4⟩:=h;have k5:Kept (λd=>d≠x) W ((W.setCell ⟨x,0,none⟩ (.int .i64 i)).setCell ⟨x,1,none⟩ (.int .i64 j)):=((Kept.refl _ _).set (by simp)).set (by simp);refine ⟨M,r,cap,wv,h1.off k5 h3.1 h3.2.2.2.2.1 (λe=>h3.2.1 (by cases e;rfl)) h3.2.2.2.2.2 (λe=>h3.2.2.1 (Option.some.inj e)) h3.2.2.2.1,?_,h3,h4.trans (k5.mono (λd _ hd=>by have:=hd.1;have:=h3.1;omega))⟩;exact (h2.put 0 (.int .i64 i) (by simp)).put 1 (.int .i64 j) (by simp)
theorem Ey {lo G wb fb:Nat} {V v1 v2:World} {KK AA Q:List (Nat×Nat)} {mk sk ma sa wv:Value} {b j i x M r cap:Nat} (h:St OK OA RG lo G wb fb v1 KK (upto AA b j) Q mk sk ma sa wv) (hx:lo<=x) (hxl:x < v1.heap.size) (hf:mk≠.map (some x)∧ma≠.map (some x)∧sk.ownBlock≠some x∧sa.ownBlock≠some x∧wv.ownBlock≠some x) (bx:Bx v1 x [.int .i64 0,.int .i64 0]) (hk:Kept (λd=>d < lo∧d≠G∧d≠wb) V v1)
  (g1:St OK OA RG lo G wb fb v2 KK (AA++[(b,j+1)]) Q mk sk (.map (some M)) (.slice (some ⟨r,0,none⟩) (i+1) cap) wv) (g2:Kept (λd=>d≠G∧ma≠.map (some d)∧sa.ownBlock≠some d) v1 v2) (g3:ma=.map (some M)∨v1.heap.size<=M) (g4:sa.ownBlock=some r∨v1.heap.size<=r):
  Bx v2 x [.int .i64 0,.int .i64 0]∧St OK OA RG lo G wb fb ((v2.setCell ⟨x,0,none⟩ (.int .i64 i)).setCell ⟨x,1,none⟩ (.int .i64 j)) KK (AA++[(b,j+1)]) Q mk sk (.map (some M)) (.slice (some ⟨r,0,none⟩) (i+1) cap) wv∧Bx ((v2.setCell ⟨x,0,none⟩ (.int .i64 i)).setCell ⟨x,1,none⟩ (.int .i64 j)) x [.int .i64 i,.int .i64 j]∧(M≠x∧r≠x)∧Kept (λd=>d < lo∧d≠G∧d≠wb) V ((v2.setCell ⟨x,0,none⟩ (.int .i64 i)).setCell ⟨x,1,none⟩ (.int .i64 j))∧v1.heap.size<=((v2.setCell ⟨x,0,none⟩ (.int .i64 i)).setCell ⟨x,1,none⟩ (.int .i64 j)).heap.size:=by
 have hG:=h.k.hg;have k5:Kept (λd=>d≠x) v2 ((v2.setCell ⟨x,0,none⟩ (.int .i64 i)).setCell ⟨x,1,none⟩ (.int .i64 j)):=((Kept.refl _ _).set (by simp)).set (by simp);have eM:M≠x:=λe=>by
  rcases g3 with g3 | g3
  .exact hf.2.1 (by rw [g3,e])
  .omega
 have er:r≠x:=λe=>by
  rcases g4 with g4 | g4
  .exact hf.2.2.2.1 (by rw [g4,e])
  .omega
 have b2:=bx.kept g2 ⟨by omega,hf.2.1,hf.2.2.2.1⟩;have low:∀d,d < lo->d≠G->d≠G∧ma≠.map (some d)∧sa.ownBlock≠some d:=λd hd hg=>⟨hg,λe=>by have:=(h.apart.2.2 d e).2.2;omega,λe=>by have:=az h.a.ow d e;omega⟩
 refine ⟨b2,g1.off k5 hx hf.1 (λe=>eM (by cases e;rfl)) hf.2.2.1 (λe=>er (Option.some.inj e)) hf.2.2.2.2,(b2.put 0 (.int .i64 i) (by simp)).put 1 (.int .i64 j) (by simp),⟨eM,er⟩,(hk.trans (g2.mono (λd _ hd=>low d hd.1 hd.2.1))).trans (k5.mono (λd _ hd=>by have:=hd.1;omega)),Nat.le_trans g2.size k5.size⟩
theorem C8 {lo G wb fb:Nat} {V v3 v4:World} {KK AA Q:List (Nat×Nat)} {mk sk wv:Value} {b j i x M r cap r' cap' n':Nat} (h:St OK OA RG lo G wb fb v3 KK (AA++[(b,j+1)]) (Q++iR OA b j) mk sk (.map (some M)) (.slice (some ⟨r,0,none⟩) (i+1) cap) wv) (hx:lo<=x) (hxl:x < v3.heap.size) (hf:mk≠.map (some x)∧sk.ownBlock≠some x∧wv.ownBlock≠some x) (hm:M≠x∧r≠x) (bx:Bx v3 x [.int .i64 i,.int .i64 j]) (hk:Kept (λd=>d < lo∧d≠G∧d≠wb) V v3)
  (g1:St OK OA RG lo G wb fb v4 KK (AA++[(b,j+1)]) (Q++iR OA b j++[(b,OA b+j * 9+2)]) mk sk (.map (some M)) (.slice (some ⟨r,0,none⟩) (i+1) cap) (.slice (some ⟨r',0,none⟩) n' cap')) (g2:Kept (λd=>wv.ownBlock≠some d∧d≠wb) v3 v4) (g3:wv.ownBlock=some r'∨v3.heap.size<=r'):PA OK OA RG lo G wb fb V KK AA Q mk sk b j i x v4:=by
 refine ⟨M,r,cap,_,by rw [C9,<- List.append_assoc];exact g1,bx.kept g2 ⟨hf.2.2,by have:=h.hw.1;omega⟩,⟨hx,hm.1,hm.2,λe=>?_,hf.1,hf.2.1⟩,hk.trans (g2.mono (λd _ hd=>⟨λe=>by have:=az h.q d e;omega,hd.2.2⟩))⟩;exact zz214
theorem PA.bx {lo G wb fb:Nat} {V:World} {KK AA Q:List (Nat×Nat)} {mk sk:Value} {b j i x:Nat} {W:World} (h:PA OK OA RG lo G wb fb V KK AA Q mk sk b j i x W):Bx W x [.int .i64 i,.int .i64 j]:=by
 obtain ⟨M,r,cap,wv,h1,h2,h3,h4⟩:=h;exact h2
theorem PA.whole {lo G wb fb:Nat} {V:World} {KK AA Q:List (Nat×Nat)} {mk sk:Value} {b j i x:Nat} {W:World} (h:PA OK OA RG lo G wb fb V KK AA Q mk sk b j i x W) (hi:AA.length=i) (hl:i < 10000000):
  Calls Tryz.prog 104 #[.pointer (some ⟨G,4,none⟩),.agg #[.int .i64 i,.int .i64 j]] W λe V'=>e=.returned (.agg #[.int .i64 i,.int .i64 j])∧PA OK OA RG lo G wb fb V KK AA Q mk sk b j i x V':=by
 obtain ⟨M,r,cap,wv,h1,h2,h3,h4⟩:=id h;refine (A.nT h1.a i j (by simp [hi]) (by simp [hi];omega)).mono ?_;rintro e V' ⟨rfl,k⟩;exact ⟨rfl,h.kept k⟩
theorem PA.end {lo G wb fb:Nat} {V:World} {KK AA Q:List (Nat×Nat)} {mk sk:Value} {b j i x:Nat} {W:World} (h:PA OK OA RG lo G wb fb V KK AA Q mk sk b j i x W) (hi:AA.length=i):
  ∃r cap,i < cap∧∀W',Kept (λ_=>True) W W'->(W'.cell? ⟨G,5,none⟩=some (.slice (some ⟨r,0,none⟩) (i+1) cap)∧W'.cell? ⟨r,i * 5+3,none⟩=some (.int .i64 ((j:Int)+1))∧W'.cell? ⟨x,1,none⟩=some (.int .i64 j))∧∃ma sa wv,St OK OA RG lo G wb fb W' KK (upto AA b (j+1)) (Q++iR OA b (j+1)) mk sk ma sa wv∧Kept (λd=>d < lo∧d≠G∧d≠wb) V W':=by
 obtain ⟨M,r,cap,wv,h1,h2,h3,h4⟩:=h;have hc:i < cap:=by
  have ho:=h1.a.ow;rw [List.length_append,hi] at ho
  have:=ownsRow_le ho
  omega
 refine ⟨r,cap,hc,λW' k=>?_⟩;have h1':=h1.kept k;have ho:=h1'.a.ow;rw [List.length_append,hi] at ho;have he:(AA++[(b,j+1)])[i]? =some (b,j+1):=by rw [List.getElem?_append_right (by omega)];simp [hi]
 refine ⟨⟨h1'.a.gs,?_,(h2.kept k trivial).ae 1 _ rfl⟩,_,_,_,by rw [zi];exact h1',h4.trans (k.mono (λ_ _ _=>trivial))⟩
 have:=aL ho (i * 5+3) _ (A.bO A.zf he (j:=3) rfl)
 rw [this,Int.natCast_add];rfl
def Yt (OK OA:Nat->Nat) (RG:Nat->Option Value) (lo G wb fb:Nat) (V:World) (KK AA Q:List (Nat×Nat)) (mk sk:Value) (b j:Nat) (W:World):Prop:=
 ∃ma sa wv,St OK OA RG lo G wb fb W KK (upto AA b j) (Q++iR OA b j) mk sk ma sa wv∧Kept (λd=>d < lo∧d≠G∧d≠wb) V W
theorem Rb {lo G wb fb:Nat} {V:World} {KK AA Q:List (Nat×Nat)} {mk sk ma sa wv:Value} {b n cap i:Nat} (hi:AA.length=i) (h:St OK OA RG lo G wb fb V KK AA Q mk sk ma sa wv) (hb:∀e∈AA,e.1≠b) (lb:aO V b∧b < lo∧b≠G∧b≠wb) (hl:i < 10000000) (hn:n<=10000000) (hq:Q.length+n<=10000000) (hcap:n<=cap):
  Calls Tryz.prog 67 #[.pointer (some ⟨G,4,none⟩),.slice (some ⟨b,OA b,none⟩) n cap,Ib fb] V λe V'=>e=.returned (.tuple #[])∧Rc OK OA RG lo G wb fb V KK (upto AA b n) (Q++iR OA b n) mk sk V':=by
 have Va:Hid (Yt OK OA RG lo G wb fb V KK AA Q mk sk b 0 V):=⟨ma,sa,wv,by rw [show iR OA b 0=[] from rfl,List.append_nil];exact h,Kept.refl _ _⟩
 have HB:=hide hb;have sW:=hide lb;have HI:=hide hi;have HQ:=hide hq;clear h hb lb hi hq;go_enter Tryz.func67,Tryz.ntmps67;go_wp2_with fail
 go_loopw [6,7] (λs6 s7 wr=>∃(j:Nat) (s:Int),s7=.int .i64 j∧s6=.int .i64 s∧j<=n∧((j=0∧s=-1)∨(0 < j∧s=i))∧Hid (Yt OK OA RG lo G wb fb V KK AA Q mk sk b j wr)) (λ_ s7 _=>n - (intOf s7).toNat)
 case atStart=>exact ⟨0,-1,rfl,rfl,Nat.zero_le _,.inl ⟨rfl,rfl⟩,Va⟩
 case round=>
  obtain ⟨j,s,rfl,rfl,hjn,hs,har⟩:=hrel;have HS:=hide hs;clear hs
  by_cases hj:j < n
  .have hjj:(j:Int) < n:=by omega
   have hjc:j < cap:=by omega
   obtain ⟨Yu,sa1,wv1,hst,hk⟩:=har.out;clear har;have HST:=hide hst;have HK:=hide hk;have fE:Hid (aO wr b):=sW.out.1.kept hk sW.out.1.lt sW.out.2;clear hst hk;have gQ:Hid (∀V',Kept (λ_=>True) wr V'->V'.cell? ⟨G,4,none⟩=some Yu∧(Instr.lookup 136 Yu (.pointer (some ⟨b,OA b+j * 9,none⟩)) true).run Tryz.prog V'=.ok (.tuple #[.agg #[.int .i64 0,.int .i64 0],.bool false]) V'):=λV' k=>by
    have h':=HST.out.kept k;exact ⟨h'.a.gm,h'.Ia HB.out (fE.out.all k)⟩
   have k0:=gQ.out wr (Kept.refl _ _);have k1:=gQ.out wr.drew (Kept.drew _ _);have k2:=gQ.out (wr.alloc (.cells #[.int .i64 0,.int .i64 0] 182)) (Kept.alloc _ _ _);have k3:=gQ.out (wr.alloc (.cells #[.int .i64 0,.int .i64 0] 182)).drew ((Kept.alloc _ _ _).trans (Kept.drew _ _))
   go_upto_region 3 with fail
   go_cut [8,9] (λs8 s9 wx=>∃x,s8=.pointer (some ⟨x,0,none⟩)∧s9=.bool false∧wr.heap.size<=x∧Bx wx x [.int .i64 0,.int .i64 0]∧Kept (λ_=>True) wr wx)
   case first=>
    exact zz118
   case rest=>
   obtain ⟨x,rfl,rfl,hx,hbx,hcb⟩:=hcut
   rename World=>v1
   have hfr:=HST.out.fresh hx;have Ez:lo<=x:=Nat.le_trans HST.out.k.hv hx;have Da:Hid (lo<=x∧x < v1.heap.size):=⟨Ez,hbx.lt⟩
   have Db:=hide hfr;have x9:=hide hbx;have nE:=hide (HST.out.kept hcb);have fU:=hide (HK.out.trans (hcb.mono (λ_ _ _=>trivial)));have HP:=hide (Re HI.out HS.out nE.out HB.out ⟨fE.out.all hcb,sW.out.2⟩ (Nat.le_of_lt hl) (by omega));clear hfr hbx hcb hx Ez k0 k1 k2 k3 gQ
   go_upto_region 5 with fail
   go_upto_region 6 with (go_at_call 103;refine HP.out.mono ?_;rintro e v2 ⟨rfl,M,r,Tp,g1,g2,g3,g4⟩;have kJ:=hide (Ey nE.out Da.out.1 Da.out.2 Db.out x9.out fU.out g1 g2 g3 g4);have c0:=kJ.out.1.ae 0 _ rfl;have c1:=kJ.out.1.ae 1 _ rfl;have c2:=kJ.out.1.live 0;have c3:=kJ.out.1.live 1;clear g1 g2 g3 g4)
   have ni:Hid ((Q++iR OA b j).length<=10000000):=by unfold Hid;rw [List.length_append,EA];have:=HQ.out;omega
   obtain ⟨v3,hv3⟩:∃v3,(v2.setCell ⟨x,0,none⟩ (.int .i64 i)).setCell ⟨x,1,none⟩ (.int .i64 j)=v3:=⟨_,rfl⟩
   have hpr:=kJ.out.2;rw [hv3] at hpr;rw [hv3];clear kJ c0 c1 c2 c3 hv3;have kJ:=hide hpr;clear hpr HP x9 nE fU;have HW:=hide (Ny kJ.out.1 b (OA b+j * 9) ni.out)
   go_upto_region 7 with (refine HW.out.mono ?_;rintro e v4 ⟨rfl,r',cap',g1,g2,g3⟩;have Dc:=hide (C8 kJ.out.1 Da.out.1 (Nat.lt_of_lt_of_le Da.out.2 kJ.out.2.2.2.2) ⟨Db.out.1,Db.out.2.2.1,Db.out.2.2.2.2⟩ kJ.out.2.2.1 kJ.out.2.1 kJ.out.2.2.2.1 g1 g2 g3);clear g1 g2 g3)
   clear HW kJ;have c0:=Dc.out.bx.ae 0 _ rfl;have c1:=Dc.out.bx.ae 1 _ rfl;have Nz:=hide (Dc.out.whole HI.out (by omega))
   go_upto_region 8 with (go_at_call 104;refine Nz.out.mono ?_;rintro e v5 ⟨rfl,g1⟩;have wX:=hide g1;clear g1;have d0:=wX.out.bx.ae 0 _ rfl;have d1:=wX.out.bx.ae 1 _ rfl;have d2:=wX.out.bx.live 0;have d3:=wX.out.bx.live 1)
   exact zz18
  .obtain rfl:j=n:=by omega
   have hjj:¬(j:Int) < j:=by omega
   have HF:Hid (Rc OK OA RG lo G wb fb V KK (upto AA b j) (Q++iR OA b j) mk sk wr):=har.out;clear har;exact zz143
end Go.Proofs.YthfnobboalhihaaGreat
