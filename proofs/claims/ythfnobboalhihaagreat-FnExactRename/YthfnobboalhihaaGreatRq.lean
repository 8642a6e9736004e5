import Derived.Test.YthfnobboalhihaaGreatRn
set_option maxHeartbeats 4000000
set_option maxRecDepth 100000
namespace Go.Proofs.YthfnobboalhihaaGreat
open Go.RowKit Go.Joins
theorem Ei:∀(n:Nat) (F:Fo),Fit E F (rep (E 1) n)->(fe F).length=n∧F.vals=(fe F).map Value.string
 | 0,F,h=>by rw [ai h];exact ⟨rfl,rfl⟩
 | n+1,F,h=>by
  obtain ⟨x,q,rfl,hx,hq,-⟩:=Fit.split (fs:=E 1) (gs:=rep (E 1) n) h;replace hx:Fit E x [.t]:=hx;obtain ⟨s,F0,rfl,-,hx⟩:=aU hx;have e0:F0=.nil:=by
   cases F0 with
   | nil=>rfl
   | v x r=>simp [Fit] at hx
   | s a n c ks r=>simp [Fit] at hx
  subst e0;obtain ⟨g1,g2⟩:=Ei n q hq;simp only [Fo.app,fe,List.length_cons,Fo.vals,List.map_cons,g1,g2];exact ⟨trivial,trivial⟩
theorem Mine.fe {V:World} {a:Option Addr} {n cap b o:Nat} {ks r:Fo} (h:Mine V (.s a n cap ks r) b o) (hf:Fit E ks (rep (E 1) n)):xP V a (Go.Proofs.YthfnobboalhihaaGreat.fe ks)∧n=(Go.Proofs.YthfnobboalhihaaGreat.fe ks).length:=by
 obtain ⟨g1,g2⟩:=Ei n ks hf;refine ⟨λhp=>?_,g1.symm⟩;have hl:0 < ks.len:=by
  have:=congrArg List.length g2
  rw [Fo.aB,List.length_map] at this;omega
 obtain ⟨c,p,rfl,-,mk,-⟩:=h.row hl;refine ⟨c,p,rfl,λi t hi=>mk.ae i _ ?_⟩;rw [g2,List.getElem?_map,hi];rfl
theorem zz128 {P:Prop} (h:P:=by
 obtain ⟨y1,y2⟩:=fin V' (jo f t true true (j+1) kk) (kn * 7) (g3.trans g1.symm) (g4.trans g2.symm) z1 (by rw [g1];exact z2);exact ⟨y1,by rw [<- uR hk ha j i];exact y2⟩):P:=h
theorem zz176 {P:Prop} (h:P:=by
 have:=Fit.len hk
 rw [dz,show (E 3).length=7 from rfl] at this;omega):P:=h
theorem LY (f t:ByteArray):∀(n:Nat) (F:Fo),Fit E F (rep (E 3) n)->jo f t true true 1 F=dH f t true false F
 | 0,F,h=>by rw [ai h,dY,jo] <;> simp
 | n+1,F,h=>by
  obtain ⟨x,q,rfl,hx,hq,-⟩:=Fit.split (fs:=E 3) (gs:=rep (E 3) n) h;rw [pG f t true true 0 hx q,DX f t true false hx q,jo,((jW f t _ q n (Nat.le_refl _)).1 hq).1]
def zX (f t:ByteArray) (P:Fo) (ka:Option Addr) (kn kc:Nat) (kk:Fo) (aa:Option Addr) (an ac:Nat) (ak:Fo) (j i:Nat):Fo:=
 P.app (.s ka kn kc (jo f t true true j kk) (.s aa an ac (lX f t i ak) .nil))
section
variable {f t:ByteArray} {P:Fo} {ka aa:Option Addr} {kn kc an ac:Nat} {kk ak:Fo} {m:Nat} {V:World} {b o j i:Nat}
theorem uR (hk:Fit E kk (rep (E 3) kn)) (ha:Fit E ak (rep (E 2) an)) (j i:Nat):(zX f t P ka kn kc kk aa an ac ak j i).ah=(zX f t P ka kn kc kk aa an ac ak 0 0).ah:=by
 obtain ⟨g1,g2⟩:=iK f t kn j true true kk hk;obtain ⟨g3,g4⟩:=lg f t an i ak ha;unfold zX;rw [Fo.aQ,Fo.aQ,jo,lX];simp only [Fo.ah,g1,g2,g3,g4]
theorem DY (hk:Fit E kk (rep (E 3) kn)) (ha:Fit E ak (rep (E 2) an)) (hQ:∀b o,∀e∈aS b o kk,oZ m e.x) (hP:P.len=5) (hj:j < kn) (hm:Mine V (zX f t P ka kn kc kk aa an ac ak j i) b o):
  ∃c p x,ka=some ⟨c,p,none⟩∧V.cell? ⟨b,o+5,none⟩=some (.slice (some ⟨c,p,none⟩) kn kc)∧Fit E x (E 3)∧oZ m x∧Mine V x c (p+j * 7)∧∀V',Mine V' (dH f t true true x) c (p+j * 7)->aZ x.ah c (p+j * 7) 7 V V'->Mine V' (zX f t P ka kn kc kk aa an ac ak (j+1) i) b o∧aZ (zX f t P ka kn kc kk aa an ac ak 0 0).ah b o 7 V V':=by
 obtain ⟨g1,g2⟩:=iK f t kn j true true kk hk;obtain ⟨g3,g4⟩:=iK f t kn (j+1) true true kk hk;have hl:0 < (jo f t true true j kk).len:=by
  rw [g2];exact zz176
 obtain ⟨c,p,rfl,h0,mk,fin⟩:=Mine.deep 7 (X:=P) hm hl;rw [hP] at h0;obtain ⟨x,hx,hq,mx,mi,f2⟩:=row_step f t (Q:=oZ m) kn j p kk V hk hQ hj mk;refine ⟨c,p,x,rfl,h0,hx,hq,mx,λV' k1 k2=>?_⟩;obtain ⟨z1,z2⟩:=f2 V' k1 k2;exact zz128
theorem DZ (hk:Fit E kk (rep (E 3) kn)) (ha:Fit E ak (rep (E 2) an)) (hQ:∀b o,∀e∈aJ b o ak,oZ m e.x) (hP:P.len=5) (hi:i < an) (hm:Mine V (zX f t P ka kn kc kk aa an ac ak j i) b o):
  ∃c p y ca cn cc L,aa=some ⟨c,p,none⟩∧V.cell? ⟨b,o+6,none⟩=some (.slice (some ⟨c,p,none⟩) an ac)∧Fit E y (E 3)∧oZ m y∧Mine V y c (p+i * 9+2)∧V.cell? ⟨c,p+i * 9+1,none⟩=some (.slice ca cn cc)∧xP V ca L∧cn=L.length∧cn<=ak.wt∧
   (fV f L=true->∀V',Kept (λ_=>True) V V'->Mine V' (zX f t P ka kn kc kk aa an ac ak j (i+1)) b o∧aZ (zX f t P ka kn kc kk aa an ac ak 0 0).ah b o 7 V V')∧
   (fV f L=false->∀V',Mine V' (dH f t true true y) c (p+i * 9+2)->aZ y.ah c (p+i * 9+2) 7 V V'->Mine V' (zX f t P ka kn kc kk aa an ac ak j (i+1)) b o∧aZ (zX f t P ka kn kc kk aa an ac ak 0 0).ah b o 7 V V')∧
   (∀d,d=c∨d∈y.ah->d∈(zX f t P ka kn kc kk aa an ac ak 0 0).ah):=by
 obtain ⟨g1,g2⟩:=lg f t an i ak ha;obtain ⟨g3,g4⟩:=lg f t an (i+1) ak ha;have hl0:0 < ak.len:=by
  have:=Fit.len ha
  rw [dz,show (E 2).length=9 from rfl] at this;omega
 have hl:0 < (lX f t i ak).len:=by rw [g2];exact hl0
 have he:∀i,zX f t P ka kn kc kk aa an ac ak j i=(P.app (.s ka kn kc (jo f t true true j kk) .nil)).app (.s aa an ac (lX f t i ak) .nil):=λi=>by
  unfold zX;rw [Fo.fw];rfl
 rw [he] at hm;obtain ⟨c,p,rfl,h0,mk,fin⟩:=Mine.deep 7 hm hl;have h6:o+(P.app (.s ka kn kc (jo f t true true j kk) .nil)).len=o+6:=by rw [Fo.aR,hP];rfl
 rw [h6] at h0;obtain ⟨x,hx,LZ,hw,mx,mi,f2⟩:=BN f t (Q:=oZ m) an i p ak V ha hQ hi mk;obtain ⟨au,ca,cn,cc,ck,y,rfl,hy,hck,hit,r1,r2⟩:=L8 f t hx;obtain ⟨n1,n2,n3⟩:=mx.split;obtain ⟨-,n4,-⟩:=Mine.split (x:=.v (.string au) .nil) (q:=.s ca cn cc ck .nil) n1;obtain ⟨n5,n6⟩:=n4.fe hck;have hch:∀V',Mine V' (jZ f t true ((Fo.v (.string au) (.s ca cn cc ck .nil)).app y)) c (p+i * 9)->aZ ((Fo.v (.string au) (.s ca cn cc ck .nil)).app y).ah c (p+i * 9) 9 V V'->Mine V' (zX f t P ka kn kc kk (some ⟨c,p,none⟩) an ac ak j (i+1)) b o∧aZ (zX f t P ka kn kc kk (some ⟨c,p,none⟩) an ac ak 0 0).ah b o 7 V V':=λV' k1 k2=>by
  obtain ⟨z1,z2⟩:=f2 V' k1 k2;obtain ⟨y1,y2⟩:=fin V' (lX f t (i+1) ak) (an * 9) (g3.trans g1.symm) (g4.trans g2.symm) z1 (by rw [g1];exact z2);rw [<- he] at y1 y2;exact ⟨y1,by rw [<- uR hk ha j i];exact y2⟩
 refine ⟨c,p,y,ca,cn,cc,fe ck,rfl,h0,hy,LZ 0 0 ⟨0,2,y⟩ (by rw [hit];simp),n2,?_,n5,n6,?_,λht V' k=>?_,λht V' k1 k2=>?_,λd hd=>?_⟩
 .exact mx.ae 1 _ rfl
 .have:cn<=((Fo.v (.string au) (.s ca cn cc ck .nil)).app y).wt:=by
   simp [Fo.app,Fo.wt];omega
  omega
 .refine hch V' (by rw [r1 ht];exact mx.keep k (λ_ _=>trivial)) (aZ.of mx.lt.1 k)
 .have:=(Kk (f:=f) (t:=t) (V':=V') hy mx).2 k1 k2
  exact hch V' (by rw [r2 ht];exact this.1) this.2
 .have e2:(zX f t P ka kn kc kk (some ⟨c,p,none⟩) an ac ak 0 0).ah=((P.app (.s ka kn kc (jo f t true true j kk) .nil)).app (.s (some ⟨c,p,none⟩) an ac (lX f t i ak) .nil)).ah:=by rw [<- he];exact (uR hk ha j i).symm
  rw [e2,Fo.aQ];refine List.mem_append.2 (.inr ?_);have e3:(Fo.s (some ⟨c,p,none⟩) an ac (lX f t i ak) .nil).ah=c ::(ak.ah++[]):=by simp [Fo.ah,g1,g2,aT hl0]
  rw [e3];rcases hd with e | e
  .rw [e];exact List.mem_cons_self
  .exact List.mem_cons_of_mem _ (List.mem_append.2 (.inl (mi d (by rw [Fo.aQ];exact List.mem_append.2 (.inr e)))))
end
section
variable {f t:ByteArray} {P:Fo} {ka aa:Option Addr} {kn kc an ac:Nat} {kk ak:Fo} {m:Nat} {V:World} {b o j i:Nat}
theorem JU (hP:P.len=5) (hm:Mine V (zX f t P ka kn kc kk aa an ac ak j i) b o):V.cell? ⟨b,o+5,none⟩=some (.slice ka kn kc)∧V.cell? ⟨b,o+6,none⟩=some (.slice aa an ac):=by
 have hv:(zX f t P ka kn kc kk aa an ac ak j i).vals=P.vals++[.slice ka kn kc,.slice aa an ac]:=by
  unfold zX;rw [Fo.bX];rfl
 have hl:P.vals.length=5:=by rw [Fo.aB,hP]
 exact ⟨hm.ae 5 _ (by rw [hv,List.getElem?_append_right (by omega),hl];rfl),hm.ae 6 _ (by rw [hv,List.getElem?_append_right (by omega),hl];rfl)⟩
theorem JV (hm:Mine V (zX f t P ka kn kc kk aa an ac ak j i) b o):(kn<=kc∧kc<=maxLen)∧an<=ac∧ac<=maxLen:=by
 obtain ⟨-,m2,-⟩:=hm.split;obtain ⟨⟨h1,h2,-⟩,⟨h3,h4,-⟩,-⟩:=m2.subs;exact ⟨⟨h1,h2⟩,h3,h4⟩
theorem Pb (hk:Fit E kk (rep (E 3) kn)) (h0:0 < kn) (hm:Mine V (zX f t P ka kn kc kk aa an ac ak j i) b o):∃c p,ka=some ⟨c,p,none⟩:=by
 have hl:0 < (jo f t true true j kk).len:=by
  rw [(iK f t kn j true true kk hk).2];exact zz176
 obtain ⟨c,p,e,-⟩:=Mine.deep 7 (X:=P) hm hl;exact ⟨c,p,e⟩
end
theorem Sn {f t:ByteArray} {m:Nat} (ih:ET f t m) {W:World} {cb vb b o:Nat} {P:Fo} {ka aa:Option Addr} {k' kc an ac:Nat} {kk ak:Fo} (hP:P.len=5) (hk:Fit E kk (rep (E 3) (k'+1))) (ha:Fit E ak (rep (E 2) an)) (sS:∀b o,∀e∈aS b o kk,oZ m e.x) (uY:∀b o,∀e∈aJ b o ak,oZ m e.x)
  (hbd:k'+1<=16777216∧an<=16777216∧ak.wt<=1048576) (hm:Mine W (zX f t P ka (k'+1) kc kk aa an ac ak 1 0) b o)
  (hcb:W.cell? ⟨cb,0,none⟩=some (.pointer (some ⟨b,o,none⟩))) (hvb:W.cell? ⟨vb,0,none⟩=some (.iface 53 (.agg #[.string f,.string t]))) (nc:∀d,(d=cb∨d=vb)->d≠b∧d∉(zX f t P ka (k'+1) kc kk aa an ac ak 0 0).ah):
  Calls Tryz.prog 173 #[.pointer (some ⟨cb,0,none⟩),.pointer (some ⟨vb,0,none⟩)] W λe W'=>e=.returned (.tuple #[])∧Mine W' (zX f t P ka (k'+1) kc kk aa an ac ak (k'+1) an) b o∧aZ (zX f t P ka (k'+1) kc kk aa an ac ak 0 0).ah b o 7 W W':=by
 obtain ⟨k0,k1,rfl⟩:=Pb hk (Nat.succ_pos _) hm;obtain ⟨I,hI⟩:∃I,(zX f t P (some ⟨k0,k1,none⟩) (k'+1) kc kk aa an ac ak 0 0).ah=I:=⟨_,rfl⟩
 rw [hI] at nc ⊢;obtain ⟨⟨cp1,cp2⟩,cp3,cp4⟩:=JV hm;simp only [maxLen] at cp2 cp4;have mM:Hid (∀V,Kept (λd=>d≠b∧d∉I) W V->V.cell? ⟨vb,0,none⟩=some (.iface 53 (.agg #[.string f,.string t]))∧V.cell? ⟨cb,0,none⟩=some (.pointer (some ⟨b,o,none⟩))):=λV k=>⟨(k.cell (p:=⟨vb,0,none⟩) (block_lt_of_cell hvb) (nc vb (.inr rfl))).trans hvb,(k.cell (p:=⟨cb,0,none⟩) (block_lt_of_cell hcb) (nc cb (.inl rfl))).trans hcb⟩
 have pz:Hid (∀V j i,Mine V (zX f t P (some ⟨k0,k1,none⟩) (k'+1) kc kk aa an ac ak j i) b o->V.cell? ⟨b,o+5,none⟩=some (.slice (some ⟨k0,k1,none⟩) (k'+1) kc)∧V.cell? ⟨b,o+6,none⟩=some (.slice aa an ac)):=λV j i h=>JU hP h
 have HM:Hid (Mine W (zX f t P (some ⟨k0,k1,none⟩) (k'+1) kc kk aa an ac ak 1 0) b o∧aZ I b o 7 W W):=⟨hm,aZ.refl _ _ _ _ _⟩
 have Cx:=hide (λ(V:World) (j i:Nat)=>DY (f:=f) (t:=t) (P:=P) (ka:=some ⟨k0,k1,none⟩) (aa:=aa) (kc:=kc) (ac:=ac) (V:=V) (b:=b) (o:=o) (j:=j) (i:=i) hk ha sS hP);have HAS:=hide (λ(V:World) (j i:Nat)=>DZ (f:=f) (t:=t) (P:=P) (ka:=some ⟨k0,k1,none⟩) (aa:=aa) (kc:=kc) (ac:=ac) (V:=V) (b:=b) (o:=o) (j:=j) (i:=i) hk ha uY hP);rw [hI] at Cx HAS;have Cw:Hid (∀j i,(zX f t P (some ⟨k0,k1,none⟩) (k'+1) kc kk aa an ac ak j i).ah=I):=λj i=>(uR hk ha j i).trans hI
 have xW:=hide ih;have ZL:=hide nc;have VN:Hid (vb < W.heap.size∧cb < W.heap.size):=⟨block_lt_of_cell hvb,block_lt_of_cell hcb⟩
 obtain ⟨f5,f6⟩:=pz.out W 1 0 hm;obtain ⟨hb1,hb2,hb3⟩:=hbd;clear hm hk ha sS uY ih nc hP hI;go_enter Tryz.func173,Tryz.ntmps173;go_wp2_with fail
 go_loopw [12] (λs12 wr=>∃i:Nat,s12=.int .i64 i∧i<=an∧Hid (Mine wr (zX f t P (some ⟨k0,k1,none⟩) (k'+1) kc kk aa an ac ak 1 i) b o∧aZ I b o 7 W wr)) (λs12 _=>an - (intOf s12).toNat)
 case atStart=>exact ⟨0,rfl,Nat.zero_le _,HM⟩
 case round=>
  clear hcb hvb f5 f6;obtain ⟨i,rfl,hin,hinv⟩:=hrel
  by_cases hi:i < an
  .have hii:(i:Int) < an:=by omega
   obtain ⟨c,p,y,ca,cn,cc,L,ea,h6,hy,uh,my,c1,hT,hcn,hcw,fT,fF,hin2⟩:=HAS.out wr 1 i hi hinv.out.1;have hbl:=hinv.out.1.lt.1;have hcl:c < wr.heap.size:=my.lt.1;obtain ⟨Vx,Wj⟩:∃V,(wr.alloc (.cells #[.pointer (some ⟨c,p+i * 9,none⟩)] 145)).drew=V:=⟨_,rfl⟩
   have kx:Kept (λ_=>True) wr Vx:=by rw [<- Wj];exact (Kept.alloc _ _ _).trans (Kept.drew _ _)
   have xa:Vx.cell? ⟨wr.heap.size,0,none⟩=some (.pointer (some ⟨c,p+i * 9,none⟩)):=by rw [<- Wj];simp
   obtain ⟨w1,w2⟩:=mM.out wr hinv.out.2.kp;have xv:=(kx.cell (p:=⟨vb,0,none⟩) (block_lt_of_cell w1) trivial).trans w1;have x1:=(kx.cell (p:=⟨c,p+i * 9+1,none⟩) hcl trivial).trans c1;have hII:∀d,d=b∨d∈I->d < wr.heap.size:=λd hd=>by
    rcases hd with e | e
    .rw [e];exact hbl
    .exact hinv.out.1.lt.2 d (by rw [Cw.out];exact e)
   have lZ:Hid (Calls Tryz.prog 182 #[.agg #[.string f,.string t],.slice ca cn cc,.func (.func 174) #[] #[.pointer (some ⟨vb,0,none⟩),.pointer (some ⟨wr.heap.size,0,none⟩)]] Vx λe W'=>e=.returned (.tuple #[])∧Hid ((Mine W' (zX f t P (some ⟨k0,k1,none⟩) (k'+1) kc kk aa an ac ak 1 (i+1)) b o∧aZ I b o 7 wr W')∧W'.cell? ⟨vb,0,none⟩=some (.iface 53 (.agg #[.string f,.string t]))∧W'.cell? ⟨wr.heap.size,0,none⟩=some (.pointer (some ⟨c,p+i * 9,none⟩))∧W'.cell? ⟨c,p+i * 9+1,none⟩=some (.slice ca cn cc))):=by
    have hnv:vb≠c∧vb∉y.ah:=by
     have h0:=ZL.out vb (.inr rfl);exact ⟨λe2=>h0.2 (by rw [e2];exact hin2 c (.inl rfl)),λe2=>h0.2 (hin2 vb (.inr e2))⟩
    have hna:wr.heap.size≠c∧wr.heap.size∉y.ah:=⟨λe2=>by omega,λe2=>by have:=hII _ (.inr (hin2 _ (.inr e2)));omega⟩
    refine FE hcn (by omega) (hT.kept kx) (λht V' kq=>?_) (λht V' kq=>?_)
    .exact ⟨fT ht V' (kx.trans kq),(kq.cell (p:=⟨vb,0,none⟩) (block_lt_of_cell xv) trivial).trans xv,(kq.cell (p:=⟨wr.heap.size,0,none⟩) (block_lt_of_cell xa) trivial).trans xa,(kq.cell (p:=⟨c,p+i * 9+1,none⟩) (block_lt_of_cell x1) trivial).trans x1⟩
    .have Od:=(kq.cell (p:=⟨vb,0,none⟩) (block_lt_of_cell xv) trivial).trans xv
     have Wl:=(kq.cell (p:=⟨wr.heap.size,0,none⟩) (block_lt_of_cell xa) trivial).trans xa;have v1':=(kq.cell (p:=⟨c,p+i * 9+1,none⟩) (block_lt_of_cell x1) trivial).trans x1;have m':=my.keep (kx.trans kq) (λ_ _=>trivial);refine (Sm (p:=p+i * 9) xW.out hy uh m' Od Wl (λd hd=>?_)).mono ?_
     .rcases hd with e | e
      .rw [e];exact hnv
      .rw [e];exact hna
     .rintro e W' ⟨rfl,z1,z2⟩
      exact ⟨rfl,fF ht W' z1 ((aZ.of hcl (kx.trans kq)).trans z2),(z2.kp.cell (p:=⟨vb,0,none⟩) (block_lt_of_cell Od) hnv).trans Od,(z2.kp.cell (p:=⟨wr.heap.size,0,none⟩) (block_lt_of_cell Wl) hna).trans Wl,(z2.at_ (p+i * 9+1) (.inl (by omega))).trans v1'⟩
   have eD:Vx.cell? ⟨vb,0,none⟩=some (.iface 53 (.agg #[.string f,.string t]))∧Vx.cell? ⟨wr.heap.size,0,none⟩=some (.pointer (some ⟨c,p+i * 9,none⟩))∧Vx.cell? ⟨c,p+i * 9+1,none⟩=some (.slice ca cn cc):=⟨xv,xa,x1⟩
   have g6:=(pz.out wr 1 i hinv.out.1).2;have EW:=xh f t;have EX:=xm f t;clear h6 hy uh my hT hcn hcw fT fF hin2 kx xa xv x1 hII hcl;subst ea;subst Wj;go_wp2_with fail
   go_region_held3 (λV=>V.cell? ⟨vb,0,none⟩=some (.iface 53 (.agg #[.string f,.string t]))∧V.cell? ⟨wr.heap.size,0,none⟩=some (.pointer (some ⟨c,p+i * 9,none⟩))∧V.cell? ⟨c,p+i * 9+1,none⟩=some (.slice ca cn cc))
    (first | with_reducible exact eD | with_reducible exact dK)
    (first | (go_at_call 182;refine lZ.out.mono ?_;rintro e w9 ⟨rfl,iX⟩;have dK:=iX.out.2) | fail)
   all_goals
    have Sq:Hid (Mine w9 (zX f t P (some ⟨k0,k1,none⟩) (k'+1) kc kk (some ⟨c,p,none⟩) an ac ak 1 (i+1)) b o∧aZ I b o 7 W w9):=⟨iX.out.1.1,hinv.out.2.trans iX.out.1.2⟩
    clear eD dK EW EX lZ iX w1 w2 c1 g6 hinv;go_wp2_with fail;go_roundw
    case rel=>exact ⟨i+1,by go_num,by omega,Sq⟩
    case measure=>simp [intOf];omega
  .have hii:¬(i:Int) < an:=by omega
   have ei:i=an:=by omega
   subst ei;obtain ⟨w1,w2⟩:=mM.out wr hinv.out.2.kp;have g5:=(pz.out wr 1 i hinv.out.1).1;have HIv:Hid (Mine wr (zX f t P (some ⟨k0,k1,none⟩) (k'+1) kc kk aa i ac ak (0+1) i) b o∧aZ I b o 7 W wr):=hinv;clear hinv HAS;go_wp2_with fail
   all_goals
    go_loopw [42] (λWm wr2=>∃j:Nat,Wm=.int .i64 j∧j<=k'∧Hid (Mine wr2 (zX f t P (some ⟨k0,k1,none⟩) (k'+1) kc kk aa i ac ak (j+1) i) b o∧aZ I b o 7 W wr2)) (λWm _=>k' - (intOf Wm).toNat)
    case atStart=>exact ⟨0,rfl,Nat.zero_le _,HIv⟩
    case round=>
     clear w1 w2 g5;obtain ⟨j,rfl,hjn,hinv⟩:=hrel
     by_cases hj:j < k'
     .obtain ⟨c,p,x,ek,h5,hx,hq,mx,fin⟩:=Cx.out wr (j+1) i (by omega) hinv.out.1
      cases ek
      have hjj:(j:Int) < k':=by omega
      obtain ⟨j1,hj1⟩:∃j1,j1=j+1:=⟨_,rfl⟩
      have hjj2:(j1:Int) < ((k'+1:Nat):Int):=by omega
      have abp:(j1:Int) < (k':Int)+1:=by omega
      have abq:(0:Int)<=(j1:Int):=by omega
      have hwn:IntKind.i64.wrap (1+(j:Int))=(j1:Int):=by rw [IntKind.wrap_i64];omega
      have hwn2:IntKind.i64.wrap ((j:Int)+1)=(j1:Int):=by rw [IntKind.wrap_i64];omega
      rw [<- hj1] at mx fin;have hcl:k0 < wr.heap.size:=mx.lt.1;have mK:Hid (∀V,Mine V (zX f t P (some ⟨k0,k1,none⟩) (k'+1) kc kk aa i ac ak (j1+1) i) b o->aZ I b o 7 wr V->V.cell? ⟨vb,0,none⟩=some (.iface 53 (.agg #[.string f,.string t]))∧V.cell? ⟨cb,0,none⟩=some (.pointer (some ⟨b,o,none⟩))∧V.cell? ⟨b,o+5,none⟩=some (.slice (some ⟨k0,k1,none⟩) (k'+1) kc)):=λV m k=>by
       obtain ⟨a1,a2⟩:=mM.out V (hinv.out.2.trans k).kp;exact ⟨a1,a2,(pz.out V _ _ m).1⟩
      have lZ:Hid (Calls Tryz.prog 25 #[.agg #[.string f,.string t],.pointer (some ⟨k0,k1+j1 * 7,none⟩)] wr.drew λe W'=>e=.returned (.tuple #[])∧Hid (Mine W' (zX f t P (some ⟨k0,k1,none⟩) (k'+1) kc kk aa i ac ak (j1+1) i) b o∧aZ I b o 7 wr W')):=by
       refine (xW.out x wr.drew k0 (k1+j1 * 7) hx hq (mx.keep (Kept.drew (λ_=>True) wr) (λ_ _=>trivial))).mono ?_;rintro e W' ⟨rfl,z1,z2⟩;exact ⟨rfl,fin W' z1 ((aZ.of hcl (Kept.drew (λ_=>True) wr)).trans z2)⟩
      have eD:wr.drew.cell? ⟨vb,0,none⟩=some (.iface 53 (.agg #[.string f,.string t]))∧wr.drew.cell? ⟨cb,0,none⟩=some (.pointer (some ⟨b,o,none⟩))∧wr.drew.cell? ⟨b,o+5,none⟩=some (.slice (some ⟨k0,k1,none⟩) (k'+1) kc):=by
       obtain ⟨a1,a2⟩:=mM.out wr hinv.out.2.kp;exact ⟨by simpa using a1,by simpa using a2,by simpa using h5⟩
      have EW:=vM f t;have EX:=vN f t;have Wn:=hide hj1;have HW:=hide hinv.out.2;clear hx hq mx fin hcl hinv hj1 h5;go_wp2_with fail
      go_region_held3 (λV=>V.cell? ⟨vb,0,none⟩=some (.iface 53 (.agg #[.string f,.string t]))∧V.cell? ⟨cb,0,none⟩=some (.pointer (some ⟨b,o,none⟩))∧V.cell? ⟨b,o+5,none⟩=some (.slice (some ⟨k0,k1,none⟩) (k'+1) kc))
       (first | with_reducible exact eD | with_reducible exact dK)
       (first | (go_at_call 25;refine lZ.out.mono ?_;rintro e w9 ⟨rfl,iX⟩;have dK:=mK.out w9 iX.out.1 iX.out.2) | fail)
      have Sq:Hid (Mine w9 (zX f t P (some ⟨k0,k1,none⟩) (k'+1) kc kk aa i ac ak (j1+1) i) b o∧aZ I b o 7 W w9):=⟨iX.out.1,HW.out.trans iX.out.2⟩
      clear eD dK EW EX lZ iX HW mK;go_wp2_with fail;go_roundw
      case rel=>exact ⟨j+1,by rw [Wn.out],by omega,by rw [Wn.out] at Sq;exact Sq⟩
      case measure=>have h9:=Wn.out;simp [intOf];omega
     .have hjj:¬(j:Int) < k':=by omega
      have ej:j=k':=by omega
      subst ej;have HE:=hinv;clear hinv;go_wp2_with fail;go_end0
      first
       | exact ⟨rfl,HE.out⟩
       | (have h9:=HE.out;simp only [‹kc=1›] at h9;exact ⟨rfl,h9⟩)
end Go.Proofs.YthfnobboalhihaaGreat
