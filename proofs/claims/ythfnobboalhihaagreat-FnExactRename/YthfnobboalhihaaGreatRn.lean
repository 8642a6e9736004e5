import Derived.Test.YthfnobboalhihaaGreatRj
import Derived.Test.YthfnobboalhihaaGreatCi
set_option maxHeartbeats 4000000
set_option maxRecDepth 100000
namespace Go.Proofs.YthfnobboalhihaaGreat
open Go.RowKit Go.Joins
theorem vM (f t:ByteArray) (w:World):(method 350 53 (.agg #[.string f,.string t]) "loop.example/g00017/impl.look").run Tryz.prog w=.ok (25,.agg #[.string f,.string t]) w:=by kernel_rfl
theorem vN (f t:ByteArray) (w:World):(nilAhead 350 53 (.agg #[.string f,.string t]) "loop.example/g00017/impl.look").run Tryz.prog w=.ok (some false) w:=by kernel_rfl
theorem xh (f t:ByteArray) (w:World):(method 350 53 (.agg #[.string f,.string t]) "loop.example/g00017/impl.inReach").run Tryz.prog w=.ok (182,.agg #[.string f,.string t]) w:=by kernel_rfl
theorem xm (f t:ByteArray) (w:World):(nilAhead 350 53 (.agg #[.string f,.string t]) "loop.example/g00017/impl.inReach").run Tryz.prog w=.ok (some false) w:=by kernel_rfl
def oZ (m:Nat) (x:Fo):Prop:=x.size<=m∧x.wt<=1048576∧(C.di x).good
def ET (f t:ByteArray) (m:Nat):Prop:=∀(x:Fo) (V:World) (b o:Nat),Fit E x (E 3)->oZ m x->Mine V x b o->
 Calls Tryz.prog 25 #[.agg #[.string f,.string t],.pointer (some ⟨b,o,none⟩)] V λe V'=>e=.returned (.tuple #[])∧Mine V' (dH f t true true x) b o∧aZ x.ah b o 7 V V'
theorem Rt {f t:ByteArray} {m:Nat} (ih:ET f t m) {W:World} {cb vb db jb c p kn kc:Nat} {kk:Fo} (hfit:Fit E kk (rep (E 3) kn)) (hQ:∀b o,∀e∈aS b o kk,oZ m e.x) (hbd:kn<=16777216) (hm:Mine W kk c p)
  (hcb:W.cell? ⟨cb,0,none⟩=some (.pointer (some ⟨db,jb,none⟩))) (hvb:W.cell? ⟨vb,0,none⟩=some (.iface 53 (.agg #[.string f,.string t]))) (IG:W.cell? ⟨db,jb+5,none⟩=some (.slice (some ⟨c,p,none⟩) kn kc)) (nc:∀d,(d=cb∨d=vb∨d=db)->d≠c∧d∉kk.ah):
  Calls Tryz.prog 154 #[.pointer (some ⟨cb,0,none⟩),.pointer (some ⟨vb,0,none⟩)] W λe W'=>e=.returned (.tuple #[])∧Mine W' (dH f t true true kk) c p∧aZ kk.ah c p (kn * 7) W W':=by
 have mM:Hid (∀V,Kept (λd=>d≠c∧d∉kk.ah) W V->V.cell? ⟨vb,0,none⟩=some (.iface 53 (.agg #[.string f,.string t]))∧V.cell? ⟨cb,0,none⟩=some (.pointer (some ⟨db,jb,none⟩))∧V.cell? ⟨db,jb+5,none⟩=some (.slice (some ⟨c,p,none⟩) kn kc)):=λV k=>⟨(k.cell (p:=⟨vb,0,none⟩) (block_lt_of_cell hvb) (nc vb (.inr (.inl rfl)))).trans hvb,(k.cell (p:=⟨cb,0,none⟩) (block_lt_of_cell hcb) (nc cb (.inl rfl))).trans hcb,(k.cell (p:=⟨db,jb+5,none⟩) (block_lt_of_cell IG) (nc db (.inr (.inr rfl)))).trans IG⟩
 have HM:Hid (Mine W (jo f t true true 0 kk) c p∧aZ kk.ah c p (kn * 7) W W):=⟨by rw [jo];exact hm,aZ.refl _ _ _ _ _⟩
 have HF:=hide hfit;have HQ:=hide hQ;have xW:=hide ih;have ZL:=hide nc;clear ih hfit hQ hm nc;go_enter Tryz.func154,Tryz.ntmps154;go_wp2_with fail
 go_loopw [9] (λs9 wr=>∃i:Nat,s9=.int .i64 (i:Int)∧i<=kn∧Hid (Mine wr (jo f t true true i kk) c p∧aZ kk.ah c p (kn * 7) W wr)) (λs9 _=>kn - (intOf s9).toNat)
 case atStart=>exact ⟨0,rfl,Nat.zero_le _,HM⟩
 case round=>
  clear hcb hvb IG;obtain ⟨i,rfl,hin,hinv⟩:=hrel
  by_cases hi:i < kn
  .have hii:(i:Int) < (kn:Int):=by omega
   obtain ⟨x,hx,Bw,mx,mi,fin⟩:=row_step f t (Q:=oZ m) kn i p kk wr HF.out HQ.out hi hinv.out.1;have hcl:c < wr.heap.size:=mx.lt.1;have lZ:Hid (Calls Tryz.prog 25 #[.agg #[.string f,.string t],.pointer (some ⟨c,p+i * 7,none⟩)] wr.drew λe W'=>e=.returned (.tuple #[])∧Hid (Mine W' (jo f t true true (i+1) kk) c p∧aZ kk.ah c p (kn * 7) W W')):=by
    refine (xW.out x wr.drew c (p+i * 7) hx Bw (mx.keep (Kept.drew (λ_=>True) wr) (λ_ _=>trivial))).mono ?_;rintro e W' ⟨rfl,k1,k2⟩;obtain ⟨z1,z2⟩:=fin W' k1 ((aZ.of hcl (Kept.drew (λ_=>True) wr)).trans k2);exact ⟨rfl,z1,hinv.out.2.trans z2⟩
   have eD:=mM.out wr.drew (hinv.out.2.kp.trans (Kept.drew _ _));have EW:=vM f t;have EX:=vN f t;clear fin mi mx hx Bw hcl hinv;go_wp2_with fail
   go_region_held3 (λV=>V.cell? ⟨vb,0,none⟩=some (.iface 53 (.agg #[.string f,.string t]))∧V.cell? ⟨cb,0,none⟩=some (.pointer (some ⟨db,jb,none⟩))∧V.cell? ⟨db,jb+5,none⟩=some (.slice (some ⟨c,p,none⟩) kn kc))
    (first | with_reducible exact eD | with_reducible exact dK)
    (first | (go_at_call 25;refine lZ.out.mono ?_;rintro e w9 ⟨rfl,iX⟩;have dK:=mM.out w9 iX.out.2.kp) | fail)
   clear eD dK EW EX;go_wp2_with fail;go_roundw
   case rel=>exact ⟨i+1,by go_num,by omega,iX⟩
   case measure=>simp [intOf];omega
  .have hii:¬(i:Int) < (kn:Int):=by omega
   have ei:i=kn:=by omega
   have HE:Hid (Mine wr (dH f t true true kk) c p∧aZ kk.ah c p (kn * 7) W wr):=by
    have h1:=hinv.out;rw [ei,uX f t kn true true kk HF.out] at h1;exact h1
   clear hinv ei;go_wp2_with fail;go_end0;exact ⟨rfl,HE.out⟩
theorem Sm {f t:ByteArray} {m:Nat} (ih:ET f t m) {W:World} {vb ab c p:Nat} {y:Fo} (hy:Fit E y (E 3)) (hq:oZ m y) (hm:Mine W y c (p+2))
  (hvb:W.cell? ⟨vb,0,none⟩=some (.iface 53 (.agg #[.string f,.string t]))) (hab:W.cell? ⟨ab,0,none⟩=some (.pointer (some ⟨c,p,none⟩))) (nc:∀d,(d=vb∨d=ab)->d≠c∧d∉y.ah):
  Calls Tryz.prog 174 #[.pointer (some ⟨vb,0,none⟩),.pointer (some ⟨ab,0,none⟩)] W λe W'=>e=.returned (.tuple #[])∧Mine W' (dH f t true true y) c (p+2)∧aZ y.ah c (p+2) 7 W W':=by
 have mM:Hid (∀V,Kept (λd=>d≠c∧d∉y.ah) W V->V.cell? ⟨vb,0,none⟩=some (.iface 53 (.agg #[.string f,.string t]))∧V.cell? ⟨ab,0,none⟩=some (.pointer (some ⟨c,p,none⟩))):=λV k=>⟨(k.cell (p:=⟨vb,0,none⟩) (block_lt_of_cell hvb) (nc vb (.inl rfl))).trans hvb,(k.cell (p:=⟨ab,0,none⟩) (block_lt_of_cell hab) (nc ab (.inr rfl))).trans hab⟩
 have hcl:c < W.heap.size:=hm.lt.1;have lZ:Hid (Calls Tryz.prog 25 #[.agg #[.string f,.string t],.pointer (some ⟨c,p+2,none⟩)] W.drew λe W'=>e=.returned (.tuple #[])∧Hid (Mine W' (dH f t true true y) c (p+2)∧aZ y.ah c (p+2) 7 W W')):=by
  refine (ih y W.drew c (p+2) hy hq (hm.keep (Kept.drew (λ_=>True) W) (λ_ _=>trivial))).mono ?_;rintro e W' ⟨rfl,k1,k2⟩;exact ⟨rfl,k1,(aZ.of hcl (Kept.drew (λ_=>True) W)).trans k2⟩
 have eD:=mM.out W.drew (Kept.drew _ _);have EW:=vM f t;have EX:=vN f t;clear ih hy hq hm hvb hab nc hcl;go_enter Tryz.func174,Tryz.ntmps174
 go_upto_region 0 with fail
 go_region_held3 (λV=>V.cell? ⟨vb,0,none⟩=some (.iface 53 (.agg #[.string f,.string t]))∧V.cell? ⟨ab,0,none⟩=some (.pointer (some ⟨c,p,none⟩)))
  (first | with_reducible exact eD | with_reducible exact dK)
  (first | (go_at_call 25;refine lZ.out.mono ?_;rintro e w9 ⟨rfl,iX⟩;have dK:=mM.out w9 iX.out.2.kp) | fail)
 all_goals
  go_end0;exact ⟨rfl,iX.out⟩
theorem Jk:∀F:Fo,fe F=C.eU F:=by
 intro F
 induction F with
 | nil=>rfl
 | v x r ih=>cases x <;> simp [fe,C.eU,ih]
 | s a n c ks r=>rfl
theorem Cs (f t:ByteArray) {k:Int} {nm:ByteArray} {mn:Value} {la na ka aa:Option Addr} {ln lc nn nc kn kc an ac:Nat} {lk nk kk:Fo} (h1:k≠1) (h8:k≠8) (h6:k=6∨k=7∨fe nk=[]) (hk:Fit E kk (rep (E 3) kn)):
  dH f t true true (.v (.int .i64 k) (.v (.string nm) (.v mn (.s la ln lc lk (.s na nn nc nk (.s ka kn kc kk (.s aa an ac .nil .nil)))))))=.v (.int .i64 k) (.v (.string nm) (.v mn (.s la ln lc lk (.s na nn nc nk (.s ka kn kc (if fV f (fe nk) then kk else dH f t true true kk) (.s aa an ac .nil .nil)))))):=by
 have e1:wW f t (.int .i64 k) (.string nm)=.string nm:=by
  unfold wW
  split
  .rename_i h _;exact absurd (by injection h) h1
  .rfl
 have e2:zO f (.int .i64 k) (.string nm)=true:=by
  unfold zO
  split
  .rename_i h _;exact absurd (by injection h) h8
  .rfl
 have e3:uF f (.int .i64 k) (fe nk)=!(fV f (fe nk)):=by
  unfold uF
  split
  .rename_i h;exact absurd (by injection h) h1
  .rfl
  .rfl
  .rename_i h2 h3 h4
   rcases h6 with e | e | e
   .exact absurd (by rw [e]) (h3 .i64)
   .exact absurd (by rw [e]) (h4 .i64)
   .simp [e,fV]
 rw [iN,dY,gI,e1,e2,e3]
 cases h:fV f (fe nk) with
 | true=>simp [((jW f t _ kk kn (Nat.le_refl _)).1 hk).1]
 | false=>simp
theorem K9 {W:World} {cb vb db jb kc:Nat} {a:Option Addr} (hcb:W.cell? ⟨cb,0,none⟩=some (.pointer (some ⟨db,jb,none⟩))) (IG:W.cell? ⟨db,jb+5,none⟩=some (.slice a 0 kc)):
  Calls Tryz.prog 154 #[.pointer (some ⟨cb,0,none⟩),.pointer (some ⟨vb,0,none⟩)] W λe W'=>e=.returned (.tuple #[])∧W'=W:=by
 go_enter Tryz.func154,Tryz.ntmps154;go_wp2_with fail
 go_loopw [9] (λs9 wr=>s9=.int .i64 0∧wr=W) (λ_ _=>0)
 case atStart=>exact ⟨rfl,rfl⟩
 case round=>
  obtain ⟨rfl,rfl⟩:=hrel;go_wp2_with fail;go_end0;exact ⟨rfl,rfl⟩
theorem zz180 {P:Prop} (h:P:=by
 rw [<- hV];exact ((Bx.new _ _ _).kept (Kept.alloc (λ_=>True) _ _) trivial).kept (Kept.drew (λ_=>True) _) trivial):P:=h
theorem zz215 {P:Prop} (h:P:=by
 rcases hd2 with e2 | e2
 .exact hbX (by rw [<- e2];exact h9)
 .have:=hlt d (.inr h9);omega):P:=h
theorem Rq {f t:ByteArray} {m:Nat} (ih:ET f t m) {W:World} {b o:Nat} {k:Int} {nm:ByteArray} {mn:Value} {la na ka aa:Option Addr} {ln lc nn nc kn kc an ac:Nat} {lk nk kk X:Fo} (hX:X=.v (.int .i64 k) (.v (.string nm) (.v mn (.s la ln lc lk (.s na nn nc nk (.s ka kn kc kk (.s aa an ac .nil .nil)))))))
  (h1:k≠1) (h8:k≠8) (h6:k=6∨k=7∨fe nk=[]) (hk:Fit E kk (rep (E 3) kn)) (hQ:∀b o,∀e∈aS b o kk,oZ m e.x) (hbd:kn<=16777216) (hnn:nn=(fe nk).length) (hnb:nn<=10000000) (hT:xP W na (fe nk)) (hm:Mine W X b o):
  Calls Tryz.prog 151 #[.agg #[.pointer (some ⟨b,o,none⟩)],.iface 53 (.agg #[.string f,.string t])] W λe W'=>e=.returned (.tuple #[])∧Mine W' (dH f t true true X) b o∧aZ X.ah b o 7 W W':=by
 have hbl:=hm.lt.1;obtain ⟨V,hV⟩:∃V,((W.alloc (.cells #[.pointer (some ⟨b,o,none⟩)] 116)).alloc (.cells #[.iface 53 (.agg #[.string f,.string t])] 237)).drew=V:=⟨_,rfl⟩
 have kV:Kept (λ_=>True) W V:=by rw [<- hV];exact ((Kept.alloc _ _ _).trans (Kept.alloc _ _ _)).trans (Kept.drew _ _)
 have zV:V.heap.size=W.heap.size+2:=by rw [<- hV];simp
 have bc:Bx V W.heap.size [.pointer (some ⟨b,o,none⟩)]:=by
  exact zz180
 have bv:Bx V (W.heap.size+1) [.iface 53 (.agg #[.string f,.string t])]:=by
  rw [<- hV]
  have:=(Bx.new (W.alloc (.cells #[.pointer (some ⟨b,o,none⟩)] 116)) [.iface 53 (.agg #[.string f,.string t])] 237).kept (Kept.drew (λ_=>True) _) trivial
  rwa [World.size_alloc] at this
 have vc:=bc.ae 0 _ rfl;have vv:=bv.ae 0 _ rfl;have mV:Mine V X b o:=hm.keep kV (λ_ _=>trivial);have hlt:∀d,d=b∨d∈X.ah->d < W.heap.size:=λd hd=>by
  rcases hd with e | e
  .rw [e];exact hbl
  .exact hm.lt.2 d e
 have jY:=Cs f t (k:=k) (nm:=nm) (mn:=mn) (la:=la) (na:=na) (ka:=ka) (aa:=aa) (ln:=ln) (lc:=lc) (nn:=nn) (nc:=nc) (kc:=kc) (an:=an) (ac:=ac) (lk:=lk) h1 h8 h6 hk;rw [<- hX] at jY;have lZ:Hid (Calls Tryz.prog 182 #[.agg #[.string f,.string t],.slice na nn nc,.func (.func 154) #[] #[.pointer (some ⟨W.heap.size,0,none⟩),.pointer (some ⟨W.heap.size+1,0,none⟩)]] V λe W'=>e=.returned (.tuple #[])∧Hid (Mine W' (dH f t true true X) b o∧aZ X.ah b o 7 W W'∧Kept (λd=>d≠b∧d∉X.ah) V W')):=by
  refine EU hnn hnb (hT.kept kV) (λht V' k'=>?_) (λht V' k'=>?_)
  .rw [ht] at jY
   simp only [if_true] at jY;rw [jY,<- hX];exact ⟨mV.keep k' (λ_ _=>trivial),aZ.of hbl (kV.trans k'),k'.mono (λ_ _ _=>trivial)⟩
  .rw [ht] at jY
   simp only [Bool.false_eq_true,if_false] at jY;have m':=mV.keep k' (λ_ _=>trivial);have YZ:=(k'.cell (p:=⟨W.heap.size,0,none⟩) (block_lt_of_cell vc) trivial).trans vc;have Od:=(k'.cell (p:=⟨W.heap.size+1,0,none⟩) (block_lt_of_cell vv) trivial).trans vv;have c5:V'.cell? ⟨b,o+5,none⟩=some (.slice ka kn kc):=m'.ae 5 _ (by rw [hX];rfl)
   by_cases h0:kn=0
   .subst h0
    have hn:kk=.nil:=ai hk;rw [hn,dY] at jY;rw [hn] at hX;rw [<- hX] at jY;refine (K9 YZ c5).mono ?_;rintro e W' ⟨rfl,rfl⟩;exact ⟨rfl,by rw [jY];exact m',aZ.of hbl (kV.trans k'),k'.mono (λ_ _ _=>trivial)⟩
   .have hl:0 < kk.len:=by
     have:=Fit.len hk
     rw [dz] at this;have e:(E 3).length=7:=rfl;rw [e] at this;omega
    have hsp:X=(Fo.v (.int .i64 k) (.v (.string nm) (.v mn (.s la ln lc lk (.s na nn nc nk .nil))))).app (.s ka kn kc kk (.s aa an ac .nil .nil)):=by rw [hX];rfl
    have m2:=m';rw [hsp] at m2;obtain ⟨c,p,rfl,-,mk,fin⟩:=m2.deep 7 hl;have hin:∀d,d=c∨d∈kk.ah->d∈X.ah:=λd hd=>by
     rw [hX];rcases hd with e | e
     .simp [Fo.ah,aT hl,e]
     .simp [Fo.ah,e]
    have hbX:=(List.nodup_cons.1 hm.nd).1;refine (Rt ih hk hQ hbd mk YZ Od c5 (λd hd=>?_)).mono ?_
    .have hd2:d=b∨W.heap.size<=d:=by
      rcases hd with e | e | e
      .exact .inr (by omega)
      .exact .inr (by omega)
      .exact .inl e
     refine ⟨λe=>?_,λe=>?_⟩
     .have h9:=hin d (.inl e)
      exact zz215
     .have h9:=hin d (.inr e)
      exact zz215
    .rintro e W' ⟨rfl,z1,z2⟩
     obtain ⟨g1,g2⟩:=((jW f t _ kk kn (Nat.le_refl _)).1 hk).2 true true;obtain ⟨y1,y2⟩:=fin W' (dH f t true true kk) (kn * 7) g1 g2 z1 z2;rw [<- hsp] at y2;exact ⟨rfl,by rw [jY];exact y1,(aZ.of hbl (kV.trans k')).trans y2,(k'.mono (λ_ _ _=>trivial)).trans y2.kp⟩
 have v4:V.cell? ⟨b,o+4,none⟩=some (.slice na nn nc):=mV.ae 4 _ (by rw [hX];rfl);have eD:V.cell? ⟨W.heap.size+1,0,none⟩=some (.iface 53 (.agg #[.string f,.string t]))∧V.cell? ⟨W.heap.size,0,none⟩=some (.pointer (some ⟨b,o,none⟩))∧V.cell? ⟨b,o+4,none⟩=some (.slice na nn nc):=⟨vv,vc,v4⟩
 have De:Hid (∀w9,Mine w9 (dH f t true true X) b o->Kept (λd=>d≠b∧d∉X.ah) V w9->w9.cell? ⟨W.heap.size+1,0,none⟩=some (.iface 53 (.agg #[.string f,.string t]))∧w9.cell? ⟨W.heap.size,0,none⟩=some (.pointer (some ⟨b,o,none⟩))∧w9.cell? ⟨b,o+4,none⟩=some (.slice na nn nc)):=λw9 hm9 k9=>by
  have hnew:∀d,W.heap.size<=d->d≠b∧d∉X.ah:=λd hd=>⟨λe=>by have:=hlt d (.inl e);omega,λe=>by have:=hlt d (.inr e);omega⟩
  exact ⟨(k9.cell (p:=⟨W.heap.size+1,0,none⟩) (block_lt_of_cell vv) (hnew _ (Nat.le_succ _))).trans vv,(k9.cell (p:=⟨W.heap.size,0,none⟩) (block_lt_of_cell vc) (hnew _ (Nat.le_refl _))).trans vc,hm9.ae 4 _ (by rw [jY];rfl)⟩
 have EW:=xh f t;have EX:=xm f t;clear ih hk hQ hbd hnn hnb hT hm hbl kV zV bc bv vc vv mV hlt jY v4 h1 h8 h6 hX;subst hV;go_enter Tryz.func151,Tryz.ntmps151
 go_upto_region 1 with fail
 go_region_held3 (λV=>V.cell? ⟨W.heap.size+1,0,none⟩=some (.iface 53 (.agg #[.string f,.string t]))∧V.cell? ⟨W.heap.size,0,none⟩=some (.pointer (some ⟨b,o,none⟩))∧V.cell? ⟨b,o+4,none⟩=some (.slice na nn nc))
  (first | with_reducible exact eD | with_reducible exact dK)
  (first | (go_at_call 182;refine lZ.out.mono ?_;rintro e w9 ⟨rfl,iX⟩;have dK:=De.out w9 iX.out.1 iX.out.2.2) | fail)
 all_goals
  go_end0;exact ⟨rfl,iX.out.1,iX.out.2.1⟩
end Go.Proofs.YthfnobboalhihaaGreat
