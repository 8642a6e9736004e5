import Derived.Test.YthfnobboalhihaaGreatWm
import Derived.Test.YthfnobboalhihaaGreatDe
import Derived.Maps.Views
import Derived.Maps.OwnSet
import Derived.Maps.OwnIn
set_option maxHeartbeats 4000000
set_option maxRecDepth 100000
namespace Go.Proofs.YthfnobboalhihaaGreat
open Go.RowKit Go.Joins
theorem zz222 {P:Prop} (h:P:=by
 have e1:=Fit.len h;rw [dz,e] at e1
 have:=F.fJ
 have:=Nat.le_mul_of_pos_right n hw
 omega):P:=h
end Go.Proofs.YthfnobboalhihaaGreat
namespace Go.Proofs.YthfnobboalhihaaGreat.C
open Go.RowKit Go.Shelf Go.Joins
attribute [local go_sem] Oper.semAt_some
def dI (w:World) (c:Nat) (v:Value) (O:Nat->Prop) (W:World):Prop:=
 W.cell? ⟨c,0,none⟩=some v∧W.frozen? ⟨c,0,none⟩=false∧¬O c∧Below w.heap.size w W∧∀b,O b->w.heap.size<=b
theorem dI.pV {w:World} {c:Nat} {O O':Nat->Prop} {A B:World} {v:Value} (h:dI w c v O A) (hK:Kept (λb=>¬O b) A B) (hn:∀b,O' b->O b∨A.heap.size<=b):dI w c v O' B:=by
 obtain ⟨h1,h2,h3,h4,h5⟩:=h;have hl:c < A.heap.size:=block_lt_of_cell h1;refine ⟨(hK.cell (p:=⟨c,0,none⟩) hl h3).trans h1,(hK.frozen (p:=⟨c,0,none⟩) hl h3).trans h2,λx=>?_,Below.kept h4 hK (λb hb x=>?_) (Nat.le_refl _),λb x=>?_⟩
 .rcases hn c x with y | y
  .exact h3 y
  .omega
 .have:=h5 b x;omega
 .rcases hn b x with y | y
  .exact h5 b y
  .have:=h4.size;omega
theorem dI.set {w:World} {c:Nat} {O:Nat->Prop} {A:World} {v:Value} (h:dI w c v O A) (u:Value) (hc:w.heap.size<=c):dI w c u O (A.setCell ⟨c,0,none⟩ u):=
 ⟨World.cell?_setCell_same' _ _ _ (by rw [h.1];rfl),by rw [World.frozen?_setCell];exact h.2.1,h.2.2.1,h.2.2.2.1.setCell hc _,h.2.2.2.2⟩
theorem dI.other {w:World} {c d:Nat} {O:Nat->Prop} {A:World} {v:Value} (h:dI w c v O A) (u:Value) (hd:w.heap.size<=d) (hcd:c≠d):dI w c v O (A.setCell ⟨d,0,none⟩ u):=
 ⟨(World.cell?_setCell_other _ _ _ _ (by simp)).trans h.1,by rw [World.frozen?_setCell];exact h.2.1,h.2.2.1,h.2.2.2.1.setCell hd _,h.2.2.2.2⟩
theorem dI.next {w:World} {c:Nat} {O:Nat->Prop} {A B:World} {v:Value} (h:dI w c v O A) (k:Below A.heap.size A B):dI w c v O B:=by
 obtain ⟨h1,h2,h3,h4,h5⟩:=h;have hl:c < A.heap.size:=block_lt_of_cell h1;exact ⟨(k.cell (p:=⟨c,0,none⟩) hl).trans h1,(k.frozen (p:=⟨c,0,none⟩) hl).trans h2,h3,h4.trans (k.mono h4.size),h5⟩
theorem dI.drew {w:World} {c:Nat} {O:Nat->Prop} {A:World} {v:Value} (h:dI w c v O A):dI w c v O A.drew:=h.next ((Below.refl _ _).drew)
def jk (LL:List (Nat×Nd)) (k:Nat):Nat:=((LL.take k).map (λe=>(di e.2.x).GJ)).sum
def NA (w:World) (LL:List (Nat×Nd)) (k:Nat) (O:Nat->Prop) (W:World):Prop:=
 dI w (w.heap.size+1) (.int .i64 ((1+jk LL k:Nat):Int)) O W∧dI w w.heap.size (.bool false) O W∧(jk LL k<=k * 134217728∧∀e,e∈LL.take k->e.1<=1000)
def KN (w:World) (LL:List (Nat×Nd)) (cd:Code) (_:Nat) (O:Nat->Prop) (W:World):Prop:=
 cd=.ret∧dI w w.heap.size (.bool true) O W∧¬(1+jk LL LL.length<=20000∧∀e,e∈LL->e.1<=1000)
theorem NA.pV (w:World) (LL:List (Nat×Nd)):tT (NA w LL):=λ_ _ _ _ _ h hK hn=>⟨h.1.pV hK hn,h.2.1.pV hK hn,h.2.2⟩
theorem KN.pV (w:World) (LL:List (Nat×Nd)) (cd:Code):tT (KN w LL cd):=λ_ _ _ _ _ h hK hn=>⟨h.1,h.2.1.pV hK hn,h.2.2⟩
theorem Ig:∀(n:Nat) (F:Fo),Fit E F (rep (E 2) n)->(aV F).an<=F.size
 | 0,F,h=>by rw [ai h,gY];exact Nat.zero_le _
 | n+1,F,h=>by
  obtain ⟨x,q,rfl,hx,hq,-⟩:=Fit.split (fs:=E 2) (gs:=rep (E 2) n) h;obtain ⟨au,ca,cn,cc,ck,y,rfl,h1,-,e,-⟩:=vD hx q
  have:=Ig n q hq
  have e1:=Fit.len h1;rw [dz] at e1;have e2:(E 1).length=1:=rfl;rw [e2] at e1
  have:=ck.fJ
  rw [e,Fo.aM];simp only [Fo.size];omega
theorem wr3 (C a b:Nat) (h:C<=2251799813685249) (ha:a<=16777216) (hb:b<=16777216):IntKind.i64.wrap ((C:Int)+IntKind.i64.wrap ((a:Int)+(b:Int)))=((C+(a+b):Nat):Int):=by
 rw [IntKind.wrap_i64,IntKind.wrap_i64];omega
theorem wr2 (C a:Nat) (h:C<=2251799813685249 * 4) (ha:a<=16777216):IntKind.i64.wrap ((C:Int)+(a:Int))=((C+a:Nat):Int):=by
 rw [IntKind.wrap_i64];omega
theorem NC (LL:List (Nat×Nd)) (i:Nat):jk LL i<=jk LL LL.length:=by
 unfold jk;rw [List.take_length];have h:=List.take_append_drop i LL
 conv=>rhs;rw [<- h]
 rw [List.map_append,List.sum_append];omega
theorem Ih {LL:List (Nat×Nd)} {i:Nat} {e:Nat×Nd} (h:LL[i]? =some e):jk LL (i+1)=jk LL i+(di e.2.x).GJ:=by
 unfold jk;rw [List.take_add_one,h,List.map_append,List.sum_append]
 simp
theorem KO (n:Nat) (hn:4<=n) (d:Nd) (w:World) (hd:d.Ok w (λb=>b < w.heap.size)) (hsz:d.x.size<=16777216):
  CallsIn Fence.wide n Tryz.prog 45 #[d.ptr] w λe W'=>Below w.heap.size w W'∧∃q:Bool,e=.returned (.bool q)∧(q=false↔(1+jk (eH [d] 1) (eH [d] 1).length<=20000∧∀e,e∈eH [d] 1->e.1<=1000)):=by
 have h1:1<=n:=by omega
 have NF:=hide (λW=>zP d W);obtain ⟨LL,yc⟩:∃LL,LL=eH [d] 1:=⟨_,rfl⟩
 have uG:=Ec hd;rw [<- yc] at uG ⊢;simp only [Nd.ptr] at NF ⊢;refine callsIn_of_wp_marks Tryz.func45 rfl trivial ?_ rfl;simp only [Tryz.ntmps45,List.size_toArray,List.length_cons,List.length_nil,Nat.reduceAdd,Nat.reduceSub,Array.replicate_succ,Array.replicate_zero,List.push_toArray,List.append_toArray,List.nil_append,List.cons_append]
 gi_wp2_with (refine ⟨trivial,?_⟩;gi_at_call 46;refine (callsIn_wide.2 (NF.out _)).mono ?_;rintro e w' ⟨rfl,rfl⟩)
 obtain ⟨W0,hW0⟩:∃W0,(((w.alloc (.cells #[.bool false] 4)).alloc (.cells #[.int .i64 1] 3)).alloc (.cells #[.pointer (some ⟨d.b,d.o,none⟩)] 55)).alloc (.cells #[.func (.func 64) #[] #[]] 114)=W0:=⟨_,rfl⟩
 have z0:W0.heap.size=w.heap.size+4:=by rw [<- hW0];simp
 have hB0:Below w.heap.size w W0:=by
  rw [<- hW0];have k1:=below_alloc2 w (.cells #[.bool false] 4) (.cells #[.int .i64 1] 3);exact k1.trans ((below_alloc2 _ _ _).mono k1.size)
 have hcell:∀(A:World) (v:Value) (ty:TypeId),(A.alloc (.cells #[v] ty)).cell? ⟨A.heap.size,0,none⟩=some v∧(A.alloc (.cells #[v] ty)).frozen? ⟨A.heap.size,0,none⟩=false:=λA v ty=>⟨by simp,by simp⟩
 have hup:∀(A:World) (o:Obj) (c:Nat) (v:Value),A.cell? ⟨c,0,none⟩=some v∧A.frozen? ⟨c,0,none⟩=false->(A.alloc o).cell? ⟨c,0,none⟩=some v∧(A.alloc o).frozen? ⟨c,0,none⟩=false:=λA o c v h=>by
  have k:=below_alloc1 A o;have hl:c < A.heap.size:=block_lt_of_cell h.1;exact ⟨(k.cell (p:=⟨c,0,none⟩) hl).trans h.1,(k.frozen (p:=⟨c,0,none⟩) hl).trans h.2⟩
 have hr0:dI w w.heap.size (.bool false) (λ_=>False) W0:=by
  have h:=hup _ (.cells #[.func (.func 64) #[] #[]] 114) _ _ (hup _ (.cells #[.pointer (some ⟨d.b,d.o,none⟩)] 55) _ _ (hup _ (.cells #[.int .i64 1] 3) _ _ (hcell w (.bool false) 4)));rw [hW0] at h;exact ⟨h.1,h.2,λz=>z,hB0,λ_ z=>z.elim⟩
 have hc0:dI w (w.heap.size+1) (.int .i64 1) (λ_=>False) W0:=by
  have h:=hup _ (.cells #[.func (.func 64) #[] #[]] 114) _ _ (hup _ (.cells #[.pointer (some ⟨d.b,d.o,none⟩)] 55) _ _ (hcell (w.alloc (.cells #[.bool false] 4)) (.int .i64 1) 3));rw [hW0,World.size_alloc] at h;exact ⟨h.1,h.2,λz=>z,hB0,λ_ z=>z.elim⟩
 have hrb:W0.cell? ⟨w.heap.size+1+1,0,none⟩=some d.ptr:=by
  have h:=hup _ (.cells #[.func (.func 64) #[] #[]] 114) _ _ (hcell ((w.alloc (.cells #[.bool false] 4)).alloc (.cells #[.int .i64 1] 3)) (.pointer (some ⟨d.b,d.o,none⟩)) 55);rw [hW0,World.size_alloc,World.size_alloc] at h;exact h.1
 have x8:W0.cell? ⟨w.heap.size+1+1+1,0,none⟩=some (.func (.func 64) #[] #[]):=by
  have h:=hcell (((w.alloc (.cells #[.bool false] 4)).alloc (.cells #[.int .i64 1] 3)).alloc (.cells #[.pointer (some ⟨d.b,d.o,none⟩)] 55)) (.func (.func 64) #[] #[]) 114;rw [hW0,World.size_alloc,World.size_alloc,World.size_alloc] at h;exact h.1
 have Ii:d.Ok W0 (λb=>b < w.heap.size):=hd.kept (Kept.of_below (S:=λb=>b < w.heap.size) hB0 (λb _ hb=>hb)) (λb hb=>⟨hb,hb⟩);have hLn:LL.length<=16777216:=Nat.le_trans uG.len hsz;have hall:∀e∈LL,e.2.Ok w (λb=>b < w.heap.size)∧e.2.x.size<=16777216:=by
  rw [yc];exact Jo [d] 1 (λn hn'=>by rw [List.mem_singleton] at hn';subst hn';exact ⟨hd,hsz⟩)
 have Rf:(eH [d] 1).length=LL.length:=by rw [yc]
 have hseq:=zQ (n - 1) (by omega) (w.heap.size+1+1) w.heap.size d W0 (w.heap.size+1+1+1) x8 (by omega) hrb Ii hsz LL.length Rf hLn;rw [<- yc] at hseq;rw [hW0];clear hW0 hcell hup;have fin:∀(D:Nat) (A:Act) (q:Bool) (V:World),(A={tmps:=A.tmps,defers:=[{target:=.collected D,args:=#[]}]}∧A.tmps[2]? =some (.pointer (some ⟨w.heap.size,0,none⟩)))->W0.heap.size<=D->V.heap[D]? =some (.deferred (some []))->
   V.cell? ⟨w.heap.size,0,none⟩=some (.bool q)->Below w.heap.size w V->(q=false↔(1+jk LL LL.length<=20000∧∀e,e∈LL->e.1<=1000))->bodyPostM Fence.wide n Tryz.prog Tryz.f45 (λe W'=>Below w.heap.size w W'∧∃q:Bool,e=.returned (.bool q)∧(q=false↔(1+jk LL LL.length<=20000∧∀e,e∈LL->e.1<=1000))) .ret A V:=by
  rintro D ⟨tm,df⟩ q V ⟨hA,h4⟩ hD hK hq bl hqq
  cases hA
  refine ⟨by simp,.inl ⟨_,_,rfl,run_takeDeferred hK,?_⟩⟩;have q':=((Kept.putObj (λc=>c≠D) V D (.deferred none) (by simp)).cell (p:=⟨w.heap.size,0,none⟩) (block_lt_of_cell hq) (by show w.heap.size≠D;omega)).trans hq;exact ⟨.bool q,by simp [results,Tryz.results45,go_sem,h4,q'],bl.trans (belowK_b (w:=w) (Nat.le_refl _) V D _ _ (by omega) hK rfl rfl),q,rfl,hqq⟩
 refine xI rfl h1 (gf:=99) (lb:=#[.pointer (some ⟨w.heap.size+1+1,0,none⟩),.pointer (some ⟨w.heap.size+1+1+1,0,none⟩)]) rfl trivial (enters_of Tryz.func99 (by kernel_rfl) rfl)
  hseq (Below.refl _ _) (λb hb=>by rcases hb with hb | hb <;> omega) (λ_=>rfl)
  (NA w LL) (KN w LL) (NA.pV _ _) (KN.pV _ _) ⟨by simpa [jk] using hc0,hr0,by simp [jk],λe he=>absurd he (by simp)⟩
  (λi O a' W=>∃(dd:Nat) (x:Nd),LL[i]? =some (dd,x)∧a'={tmps:=#[.pointer (some ⟨d.b,d.o,none⟩),undef,.pointer (some ⟨w.heap.size,0,none⟩),.pointer (some ⟨w.heap.size+1,0,none⟩),.int .i64 (dd:Int),.pointer (some ⟨x.b,x.o,none⟩),undef,undef,.pointer (some ⟨d.b,d.o,none⟩),.func (.func 99) #[] #[.pointer (some ⟨w.heap.size+1+1,0,none⟩),.pointer (some ⟨w.heap.size+1+1+1,0,none⟩)],.int .i64 (dd:Int),.pointer (some ⟨x.b,x.o,none⟩),undef,undef,undef,undef,undef,undef,undef,undef,undef,undef,undef,undef,undef,undef,undef,undef,undef,undef,undef,undef,undef,undef,undef,undef,undef,undef,undef,undef,undef,undef,undef,undef,undef,undef,undef,undef,undef,undef,undef,undef,undef,undef,undef,undef,undef,undef,undef,undef,undef,undef,undef,undef,undef,undef,undef],defers:=[]})
  ?assign ?body ?done ?stop
 case assign=>
  intro l i O W K hi Bn hI hK;obtain ⟨⟨dd,x⟩,hx⟩:∃e,LL[i]? =some e:=⟨_,List.getElem?_eq_getElem hi⟩
  have hv:qw LL i=#[.int .i64 (dd:Int),.pointer (some ⟨x.b,x.o,none⟩)]:=by
   unfold qw;rw [List.getD_eq_getElem?_getD,hx];rfl
  have yf:=hide (hK _ _ (Kept.refl _ W) hI ⟨dd,x,hx,rfl⟩);clear hK hI hx;rw [hv];clear hv
  gi_wp2
  exact yf.out
 case body=>
  rintro l i O a' W1 W hi ⟨dd,x,hx,rfl⟩ hkp Bn ⟨hc,hr,ht1,ht2⟩ hO;have hxm:(dd,x)∈LL:=List.mem_of_getElem? hx;obtain ⟨vE,xJ⟩:=hall _ hxm;have bW:=hc.2.2.2.1;obtain ⟨k,nm,mn,la,ln,lc,lk,na,nn,nc,nk,ka,kn,kc,kk,aa,an,ac,ak,hxe,-,-,h3,h4,h5,h6⟩:=ag vE.fit;have rU:=vE.ae;have hsub:=vE.subs;have hat:=vE.at_;simp only at rU hsub hat xJ;rw [hxe] at rU hsub xJ;simp only [Fo.vals] at rU;obtain ⟨-,hs4,hs5,hs6,-⟩:=hsub;have hnw:(di x.x).GJ=kn+an+(if k=6∨k=7 then nn else 0)+(aV ak).an:=by
   rw [hxe,eT,dB];simp only [Tm.GJ,pJ kn kk h5,kz an ak h6,zS h4]
  have hsu:jk LL (i+1)=jk LL i+(di x.x).GJ:=Ih hx;have hmo:=NC LL (i+1);have hlz:∀{n w:Nat} {F:Fo} {k':Nat},Fit E F (rep (E k') n)->(E k').length=w->0 < w->n<=F.size:=λ{n w F k'} h e hw=>by
   exact zz222
  have z5:=hlz h5 rfl (by decide);have z6:=hlz h6 rfl (by decide);have z4:=hlz h4 rfl (by decide);have za:=Ig an ak h6;simp only [Fo.size] at xJ;obtain ⟨C,hC⟩:∃C,C=1+jk LL i:=⟨_,rfl⟩
  rw [<- hC] at hc;have QB:C<=2251799813685249:=by have:=Nat.mul_le_mul_right 134217728 (show i<=16777216 by omega);omega
  have NG:∀V,Below w.heap.size w V->(V.cell? ⟨x.b,x.o+5,none⟩=some (.slice ka kn kc)∧V.cell? ⟨x.b,x.o+6,none⟩=some (.slice aa an ac))∧V.cell? ⟨x.b,x.o,none⟩=some (.int .i64 k)∧V.cell? ⟨x.b,x.o+4,none⟩=some (.slice na nn nc):=λV bV=>by
   have h:=rU.below bV hat;exact ⟨⟨h 5 _ rfl,h 6 _ rfl⟩,by simpa using h 0 _ rfl,h 4 _ rfl⟩
  have Rh:=hide NG;obtain ⟨c1,c2,c3,c4,c5⟩:=id hc;have eD:=(NG W.drew c4.drew).1;have hcs:=(hc.set (.int .i64 (IntKind.i64.wrap ((C:Int)+IntKind.i64.wrap ((kn:Int)+(an:Int))))) (by omega)).drew;have hrs:=(hr.other (.int .i64 (IntKind.i64.wrap ((C:Int)+IntKind.i64.wrap ((kn:Int)+(an:Int))))) (d:=w.heap.size+1) (by omega) (by omega)).drew;have dK:=(NG _ hcs.2.2.2.1).1;have HW1:Hid (IntKind.i64.wrap ((C:Int)+IntKind.i64.wrap ((kn:Int)+(an:Int)))=((C+(kn+an):Nat):Int)):=wr3 C kn an QB (by omega) (by omega);have hkn:kn<=16777216∧an<=16777216∧nn<=16777216:=⟨by omega,by omega,by omega⟩
  have hk5:=hkn.1;have ha5:=hkn.2.1;have Yw:=hkn.2.2;have HC:=hide hC;have KM:=hide hsu;have Yx:=hide hnw;have HMO:=hide hmo;have sZ:=hide yc;have HX:=hide hx;have KP:=hide hxe;clear hC hsu hnw hmo yc hx hxe hkn rU uG hseq Rf
  gi_wp2_with fail
  refine pE (S:=(λV=>V.cell? ⟨x.b,x.o+5,none⟩=some (.slice ka kn kc)∧V.cell? ⟨x.b,x.o+6,none⟩=some (.slice aa an ac))) (by kernel_rfl) (λ⟨_,_,h⟩=>h) eD (λhHeld=>?_);refine tn 1 ?_;refine tn 2 ?_;refine tn 3 ?_;refine tn 4 ?_;refine tn 5 ?_;refine tn 6 ?_;refine tn 7 ?_;refine tn 8 ?_;refine tn 9 ?_;refine tn 10 ?_;refine tn 11 ?_;refine wpAnyH_ready (rs:=[0]) (by kernel_rfl) (by simp) ?_;refine AllReadyH.cons (o:={dst:=some 12,op:=Op.load 3 (Operand.tmp 3),type:=3,pos:= "l13_core.go:312",after:=#[],guard:=none}) rfl (λK hK=>?_) AllReadyH.nil;go_simp;refine hK.out _ _ hHeld (λhHeld=>?_);clear hK K;(try simp only [Act.put,List.setIfInBounds_toArray,List.set_cons_zero,List.set_cons_succ]);refine tn 12 ?_;refine wpAnyH_ready (rs:=[13]) (by kernel_rfl) (by simp) ?_
  refine AllReadyH.cons (o:={dst:=none,op:=Op.store 3 (Operand.tmp 3) (Operand.tmp 24),type:=0,pos:= "l13_core.go:312",after:=#[{on:=12,ground:=Ground.data},{on:=0,ground:=Ground.phase},{on:=1,ground:=Ground.phase},{on:=2,ground:=Ground.phase},{on:=3,ground:=Ground.phase},{on:=4,ground:=Ground.phase},{on:=5,ground:=Ground.phase},{on:=6,ground:=Ground.phase},{on:=7,ground:=Ground.phase},{on:=8,ground:=Ground.phase},{on:=9,ground:=Ground.phase},{on:=10,ground:=Ground.phase},{on:=11,ground:=Ground.phase},{on:=12,ground:=Ground.phase}],guard:=none}) rfl (λK hK=>?_) AllReadyH.nil;go_simp;refine hK.out _ _ dK (λhHeld=>?_);clear hK K;(try simp only [Act.put,List.setIfInBounds_toArray,List.set_cons_zero,List.set_cons_succ]);refine wpAnyH_done (by kernel_rfl) ?_ _;have hw1:=HW1.out;have Vd:=hide hcs;rw [hw1] at hcs hrs ⊢;clear hw1 dK eD
  obtain ⟨V,hV⟩:∃V,(W.setCell ⟨w.heap.size+1,0,none⟩ (.int .i64 ((C+(kn+an):Nat):Int))).drew=V:=⟨_,rfl⟩
  rw [hV] at hcs hrs ⊢;obtain ⟨M,hM⟩:∃M,M=C+(kn+an):=⟨_,rfl⟩
  rw [<- hM] at hcs ⊢;have HKA:=hide NG;have HM:=hide hM;have NH:¬(O (w.heap.size+1)∨w.heap.size+1 < w.heap.size∨w.heap.size+1=w.heap.size+1+1+1):=λh=>by
   rcases h with h | h | h
   .exact c3 h
   .omega
   .omega
  have hns0:¬(O w.heap.size∨w.heap.size < w.heap.size∨w.heap.size=w.heap.size+1+1+1):=λh=>by
   rcases h with h | h | h
   .exact hr.2.2.1 h
   .omega
   .omega
  have Yy:Kept (λb=>O b∨b < w.heap.size∨b=w.heap.size+1+1+1) W V:=by rw [<- hV];exact (Kept.setCell _ _ _ _ NH).trans (Kept.drew _ _)
  have De:=hide Yy;have dZ:=hide NH;have Ri:=hide hns0;clear hV hM Yy NH hns0;clear NG;clear hkp hc hr c1 c2 c3 c4 c5 Vd NF;clear hHeld
  rename_i K1 hK1 hHe
  clear hHe;refine hK1 _ _ ?_;clear hK1 K1;refine wpIn_seq_k (λK2 hK2=>?_);have yf:Hid (∀(NI NJ NK NL u16 NN NR NS u20 u21 u22 u23 u24 u25 u26 u27 u28 u29 u30:Value),M<=20000->dd<=1000->K2 {tmps:=#[.pointer (some ⟨d.b,d.o,none⟩),undef,.pointer (some ⟨w.heap.size,0,none⟩),.pointer (some ⟨w.heap.size+1,0,none⟩),.int .i64 (dd:Int),.pointer (some ⟨x.b,x.o,none⟩),undef,undef,.pointer (some ⟨d.b,d.o,none⟩),.func (.func 99) #[] #[.pointer (some ⟨w.heap.size+1+1,0,none⟩),.pointer (some ⟨w.heap.size+1+1+1,0,none⟩)],.int .i64 (dd:Int),.pointer (some ⟨x.b,x.o,none⟩),NI,NJ,NK,NL,u16,NN,NR,NS,u20,u21,u22,u23,u24,u25,u26,u27,u28,u29,u30,undef,undef,undef,undef,undef,undef,undef,undef,undef,undef,undef,undef,undef,undef,undef,undef,undef,undef,undef,undef,undef,undef,undef,undef,undef,undef,undef,undef,undef,undef,undef,undef,undef,undef,undef,undef],defers:=[]} V):=by
   intro NI NJ NK NL u16 NN NR NS u20 u21 u22 u23 u24 u25 u26 u27 u28 u29 u30 hM2 hd2;refine hK2 _ _ ?_;clear hK2 K2;refine wpIn_seq_k (λK3 hK3=>?_)
   have Ve:Hid (∀(NI NJ NK NL u16 NN NR NS u20 u21 u22 u23 u24 u25 u26 u27 u28 u29 u30 u31 u32 u33 u34 u35 u36 u37 u38 Yz u40 YA u42 YB u44 u45 u46 YC u48 u49:Value) (V3:World) (M3:Nat),dI w (w.heap.size+1) (.int .i64 (M3:Int)) O V3->dI w w.heap.size (.bool false) O V3->Kept (λb=>O b∨b < w.heap.size∨b=w.heap.size+1+1+1) V V3->M3=M+(if k=6∨k=7 then nn else 0)->K3 {tmps:=#[.pointer (some ⟨d.b,d.o,none⟩),undef,.pointer (some ⟨w.heap.size,0,none⟩),.pointer (some ⟨w.heap.size+1,0,none⟩),.int .i64 (dd:Int),.pointer (some ⟨x.b,x.o,none⟩),undef,undef,.pointer (some ⟨d.b,d.o,none⟩),.func (.func 99) #[] #[.pointer (some ⟨w.heap.size+1+1,0,none⟩),.pointer (some ⟨w.heap.size+1+1+1,0,none⟩)],.int .i64 (dd:Int),.pointer (some ⟨x.b,x.o,none⟩),NI,NJ,NK,NL,u16,NN,NR,NS,u20,u21,u22,u23,u24,u25,u26,u27,u28,u29,u30,u31,u32,u33,u34,u35,u36,u37,u38,Yz,u40,YA,u42,YB,u44,u45,u46,YC,u48,u49,undef,undef,undef,undef,undef,undef,undef,undef,undef,undef,undef,undef,undef,undef,undef,undef,undef],defers:=[]} V3):=by
    intro NI NJ NK NL u16 NN NR NS u20 u21 u22 u23 u24 u25 u26 u27 u28 u29 u30 u31 u32 u33 u34 u35 u36 u37 u38 Yz u40 YA u42 YB u44 u45 u46 YC u48 u49 V3 M3 g1 g2 hkk g3;have HKK:=hide hkk;clear hkk;refine hK3 _ _ ?_;clear hK3 K3 hcs hrs;have hv:=Rh.out V3 g1.2.2.2.1;have v6:=hv.1.2;have hR0:Rd E (E 2) an w.heap.size aa 0 ak V3:=(Rd.start h6 hs6).below g1.2.2.2.1 (Nat.le_refl _);have rz:=hide hR0;have gz:=hide g1;have HG2:=hide g2;have lK:=hide g3;have hM3:M3<=16797216:=by split at g3 <;> omega
    clear hv hR0 g1 g2 g3;obtain ⟨AN,uE⟩:∃y,y=(aV ak).an:=⟨_,rfl⟩
    have NT:=hide uE;rw [<- uE] at za;clear uE
    gi_wp2_with fail
    gi_loopw [55] (λVf wr=>∃(j:Nat) (r:Fo) (cur:Nat),Vf=.int .i64 j∧j<=an∧Hid (cur+(aV r).an=M3+AN∧r.size<=ak.size)∧Hid (Rd E (E 2) an w.heap.size aa j r wr)∧Hid (Kept (λb=>O b∨b < w.heap.size∨b=w.heap.size+1+1+1) V3 wr)∧Hid (dI w (w.heap.size+1) (.int .i64 (cur:Int)) O wr)∧Hid (dI w w.heap.size (.bool false) O wr)) (λVf _=>an - (intOf Vf).toNat)
    case atStart=>exact ⟨0,ak,M3,rfl,Nat.zero_le _,⟨by rw [NT.out],Nat.le_refl _⟩,rz,Kept.refl _ _,gz,HG2⟩
    case round=>
     obtain ⟨j,r,cur,rfl,hjn,kK,iT,hK,hg1,hg2⟩:=hrel
     by_cases hj:j < an
     .obtain ⟨y,rr,b,o,rfl,hy,rfl,hb,hcy,-,dx⟩:=iT.out.next hj (by decide)
      have hjj:(j:Int) < an:=by omega
      obtain ⟨au,ca,cn,cc,ck,z,rfl,-,-,ed,-⟩:=vD hy rr;obtain ⟨abe,iA,cn',cc',ck',z',he,-,-,hz⟩:=aK hy;injection he with he1 he2;injection he2 with he3 he4 he5 he6 he7;subst he7;obtain ⟨k8,EB,EC,ED,EE,EF,lk8,EG,EH,EI,nk8,EJ,EK,EL,kk8,EM,EN,EO,ak8,rfl,-⟩:=ag hz;simp only [Fo.vals] at hcy;have e0:wr.cell? ⟨b,o+j * 9,none⟩=some (.string au):=hcy 0 _ rfl;have e1:wr.cell? ⟨b,o+j * 9+1,none⟩=some (.slice ca cn cc):=hcy 1 _ rfl;have e2:wr.cell? ⟨b,o+j * 9+2,none⟩=some (.int .i64 k8):=hcy 2 _ rfl;have e3:wr.cell? ⟨b,o+j * 9+3,none⟩=some (.string EB):=hcy 3 _ rfl;have e4:wr.cell? ⟨b,o+j * 9+4,none⟩=some (.bool EC):=hcy 4 _ rfl;have e5:wr.cell? ⟨b,o+j * 9+5,none⟩=some (.slice ED EE EF):=hcy 5 _ rfl;have e6:wr.cell? ⟨b,o+j * 9+6,none⟩=some (.slice EG EH EI):=hcy 6 _ rfl;have e7:wr.cell? ⟨b,o+j * 9+7,none⟩=some (.slice EJ EK EL):=hcy 7 _ rfl
      have e8:wr.cell? ⟨b,o+j * 9+8,none⟩=some (.slice EM EN EO):=hcy 8 _ rfl;have HR1:=hide dx;obtain ⟨m1,m2,m3,m4,m5⟩:=id hg1.out;obtain ⟨hce,hcl⟩:=kK.out;rw [ed] at hce;rw [Fo.aM] at hcl;have hrl:=Ig _ _ HR1.out.fit;have hcb:cur<=33574432∧cn<=33574432:=⟨by omega,by omega⟩
      have abf:=hcb.1;have abg:=hcb.2;have kB:=below_alloc1 wr (.cells #[.string au,.slice ca cn cc,.int .i64 k8,.string EB,.bool EC,.slice ED EE EF,.slice EG EH EI,.slice EJ EK EL,.slice EM EN EO] 71);obtain ⟨q1,q2,-⟩:=id (hg1.out.next kB);have Rj:=((hg1.out.next kB).set (.int .i64 ((cur:Int)+(cn:Int))) (by omega))
      have Vg:=((hg2.out.next kB).other (.int .i64 ((cur:Int)+(cn:Int))) (d:=w.heap.size+1) (by omega) (by omega))
      have hcn:((cur:Int)+(cn:Int))=((cur+cn:Nat):Int):=by omega
      have ggB:=Rj.2.2.2.1;rw [hcn] at Rj Vg;have iZ:Hid ((cur+cn)+(aV rr).an=M3+AN∧rr.size<=ak.size):=⟨by omega,by omega⟩
      have kk:=(hK.out.trans (Kept.of_below (S:=(λb=>O b∨b < w.heap.size∨b=w.heap.size+1+1+1)) kB (λb hb _=>hb))).trans (Kept.setCell _ _ ⟨w.heap.size+1,0,none⟩ (.int .i64 ((cur:Int)+(cn:Int))) dZ.out);have HCN:=hide hcn;have hR2:=(HR1.out.below kB (by have:=m4.size;omega)).below ((Below.refl w.heap.size _).setCell (p:=⟨w.heap.size+1,0,none⟩) (by simp) (.int .i64 ((cur:Int)+(cn:Int)))) (Nat.le_refl _);have qZ:Hid (dI w (w.heap.size+1) (.int .i64 ((cur+cn:Nat):Int)) O ((wr.alloc (.cells #[.string au,.slice ca cn cc,.int .i64 k8,.string EB,.bool EC,.slice ED EE EF,.slice EG EH EI,.slice EJ EK EL,.slice EM EN EO] 71)).setCell ⟨w.heap.size+1,0,none⟩ (.int .i64 ((cur:Int)+(cn:Int))))):=by
       unfold Hid;rw [hcn];exact Rj
      have KQ:Hid (dI w w.heap.size (.bool false) O ((wr.alloc (.cells #[.string au,.slice ca cn cc,.int .i64 k8,.string EB,.bool EC,.slice ED EE EF,.slice EG EH EI,.slice EJ EK EL,.slice EM EN EO] 71)).setCell ⟨w.heap.size+1,0,none⟩ (.int .i64 ((cur:Int)+(cn:Int))))):=by
       unfold Hid;rw [hcn];exact Vg
      have NU:=hide hR2;have Ew:=hide kk;clear dx hcy hy hz he1 he3 he4 he5 he6 iT hce hcl hrl hcb Rj Vg hcn ggB kk hR2 ed kK
      gi_wp2_with fail
      go_roundw
      case rel=>exact ⟨j+1,rr,cur+cn,by go_num,by omega,iZ,NU,Ew,qZ,KQ⟩
      case measure=>simp [intOf];omega
     .obtain ⟨rfl,rfl⟩:=iT.out.done hj
      have hjj:¬(j:Int) < j:=by omega
      have hce:=kK.out.1;rw [gY] at hce;have nJ:Hid (BR (λb=>b < w.heap.size∨b=w.heap.size+1+1+1) (NA w LL) (KN w LL) i O W .normal {tmps:=#[],defers:=[]} wr):=by
       refine ⟨De.out.trans (HKK.out.trans hK.out),?_⟩;have e1:=HM.out;have e2:=HC.out;have e3:=KM.out;have e4:=Yx.out;have e5:=lK.out;have e6:=NT.out;have e7:cur=1+jk LL (i+1):=by
        rw [<- e6] at e4;generalize (if k=6∨k=7 then nn else 0)=g at e4 e5;simp only [Tm.an] at hce;omega
       rw [e7] at hg1;refine ⟨hg1.out,hg2.out,?_,?_⟩
       .have:=ht1
        omega
       .intro e he
        rw [List.take_add_one,HX.out,List.mem_append] at he;rcases he with he | he
        .exact ht2 e he
        .simp only [Option.toList_some,List.mem_singleton] at he
         subst he;exact hd2
      clear kK iT hce
      gi_wp2_with fail
      exact nJ.out
   clear hK3;obtain ⟨m1,m2,m3,m4,m5⟩:=id hcs;have hv:=Rh.out V m4;have v0:=hv.2.1;have v4:=hv.2.2;have YD:=(Rh.out V.drew m4.drew).2.2;have hc4:=(hcs.set (.int .i64 (IntKind.i64.wrap ((M:Int)+(nn:Int)))) (by omega)).drew;have hr4:=(hrs.other (.int .i64 (IntKind.i64.wrap ((M:Int)+(nn:Int)))) (d:=w.heap.size+1) (by omega) (by omega)).drew;have YE:=(Rh.out _ hc4.2.2.2.1).2.2;have hw2:=wr2 M nn (by omega) (by omega);have HW2:=hide hw2;clear hw2;have YF:Hid (Kept (λb=>O b∨b < w.heap.size∨b=w.heap.size+1+1+1) V (V.setCell ⟨w.heap.size+1,0,none⟩ (.int .i64 ((M+nn:Nat):Int))).drew):=(Kept.setCell _ _ _ _ dZ.out).trans (Kept.drew _ _);have HV:=hide hv;clear hv
   gi_wp2_with fail
   .refine pE (S:=(λV=>V.cell? ⟨x.b,x.o+4,none⟩=some (.slice na nn nc))) (by kernel_rfl) (λ⟨_,_,h⟩=>h) YD (λhHeld=>?_)
    refine tn 1 ?_;refine tn 2 ?_;refine tn 3 ?_;refine tn 4 ?_;refine tn 5 ?_;refine wpAnyH_ready (rs:=[0]) (by kernel_rfl) (by simp) ?_;refine AllReadyH.cons (o:={dst:=some 43,op:=Op.load 3 (Operand.tmp 3),type:=3,pos:= "l13_core.go:317",after:=#[],guard:=none}) rfl (λK hK=>?_) AllReadyH.nil;go_simp;refine hK.out _ _ hHeld (λhHeld=>?_);clear hK K;(try simp only [Act.put,List.setIfInBounds_toArray,List.set_cons_zero,List.set_cons_succ]);refine tn 6 ?_;refine wpAnyH_ready (rs:=[7]) (by kernel_rfl) (by simp) ?_
    refine AllReadyH.cons (o:={dst:=none,op:=Op.store 3 (Operand.tmp 3) (Operand.tmp 49),type:=0,pos:= "l13_core.go:317",after:=#[{on:=6,ground:=Ground.data},{on:=0,ground:=Ground.phase},{on:=1,ground:=Ground.phase},{on:=2,ground:=Ground.phase},{on:=3,ground:=Ground.phase},{on:=4,ground:=Ground.phase},{on:=5,ground:=Ground.phase},{on:=6,ground:=Ground.phase}],guard:=none}) rfl (λK hK=>?_) AllReadyH.nil;go_simp;refine hK.out _ _ YE (λhHeld=>?_);clear hK K;(try simp only [Act.put,List.setIfInBounds_toArray,List.set_cons_zero,List.set_cons_succ]);refine wpAnyH_done (by kernel_rfl) ?_ _;have hw2:=HW2.out;rw [hw2] at hc4 hr4 ⊢;exact Ve.out _ _ _ _ _ _ _ _ _ _ _ _ _ _ _ _ _ _ _ _ _ _ _ _ _ _ _ _ _ _ _ _ _ _ _ _ _ _ _ _ hc4 hr4 YF.out (by rw [if_pos (Or.inl (by assumption))])
   .refine pE (S:=(λV=>V.cell? ⟨x.b,x.o+4,none⟩=some (.slice na nn nc))) (by kernel_rfl) (λ⟨_,_,h⟩=>h) YD (λhHeld=>?_)
    refine tn 1 ?_;refine tn 2 ?_;refine tn 3 ?_;refine tn 4 ?_;refine tn 5 ?_;refine wpAnyH_ready (rs:=[0]) (by kernel_rfl) (by simp) ?_;refine AllReadyH.cons (o:={dst:=some 43,op:=Op.load 3 (Operand.tmp 3),type:=3,pos:= "l13_core.go:317",after:=#[],guard:=none}) rfl (λK hK=>?_) AllReadyH.nil;go_simp;refine hK.out _ _ hHeld (λhHeld=>?_);clear hK K;(try simp only [Act.put,List.setIfInBounds_toArray,List.set_cons_zero,List.set_cons_succ]);refine tn 6 ?_;refine wpAnyH_ready (rs:=[7]) (by kernel_rfl) (by simp) ?_
    refine AllReadyH.cons (o:={dst:=none,op:=Op.store 3 (Operand.tmp 3) (Operand.tmp 49),type:=0,pos:= "l13_core.go:317",after:=#[{on:=6,ground:=Ground.data},{on:=0,ground:=Ground.phase},{on:=1,ground:=Ground.phase},{on:=2,ground:=Ground.phase},{on:=3,ground:=Ground.phase},{on:=4,ground:=Ground.phase},{on:=5,ground:=Ground.phase},{on:=6,ground:=Ground.phase}],guard:=none}) rfl (λK hK=>?_) AllReadyH.nil;go_simp;refine hK.out _ _ YE (λhHeld=>?_);clear hK K;(try simp only [Act.put,List.setIfInBounds_toArray,List.set_cons_zero,List.set_cons_succ]);refine wpAnyH_done (by kernel_rfl) ?_ _;have hw2:=HW2.out;rw [hw2] at hc4 hr4 ⊢;exact Ve.out _ _ _ _ _ _ _ _ _ _ _ _ _ _ _ _ _ _ _ _ _ _ _ _ _ _ _ _ _ _ _ _ _ _ _ _ _ _ _ _ hc4 hr4 YF.out (by rename_i e1 e2 e3 e4;rw [if_pos (e2.elim (λh=>Or.inl (eq_of_beq h)) (λh=>Or.inr (eq_of_beq h)))])
   .exact Ve.out _ _ _ _ _ _ _ _ _ _ _ _ _ _ _ _ _ _ _ _ _ _ _ _ _ _ _ _ _ _ _ _ _ _ _ _ _ _ _ _ hcs hrs (Kept.refl _ _) (by rename_i e1 e2;rw [if_neg (λh=>h.elim e1 (λh=>absurd e2.2 (by rw [h];decide)))];omega)
  clear hK2;obtain ⟨m1,m2,m3,m4,m5⟩:=id hcs;obtain ⟨r1,r2,r3,r4,r5⟩:=id hrs;have HB1:Hid (20000 < M∨1000 < dd->Kept (λb=>O b∨b < w.heap.size∨b=w.heap.size+1+1+1) W (V.setCell ⟨w.heap.size,0,none⟩ (.bool true))∧KN w LL .ret i O (V.setCell ⟨w.heap.size,0,none⟩ (.bool true))):=λhh=>by
   refine ⟨De.out.trans (Kept.setCell _ _ _ _ Ri.out),rfl,hrs.set (.bool true) (Nat.le_refl _),λh=>?_⟩;have e1:=HM.out;have e2:=HC.out;have e3:=KM.out;have e4:=Yx.out;have e5:=HMO.out;generalize (if k=6∨k=7 then nn else 0)=g at e4;rcases hh with hh | hh
   .have:=h.1
    omega
   .have:dd<=1000:=h.2 _ hxm
    omega
  gi_wp2_with fail
  all_goals first
   | exact HB1.out (by omega)
   | exact yf.out _ _ _ _ _ _ _ _ _ _ _ _ _ _ _ _ _ _ _ (by omega) (by omega)
 case done=>
  rintro D O W hD Vh hO ⟨i1,i2,-,i4⟩ hK;rw [List.take_length] at i4;obtain ⟨C,hC⟩:∃C,C=1+jk LL LL.length:=⟨_,rfl⟩
  rw [<- hC] at i1;obtain ⟨c1,c2,c3,c4,c5⟩:=id i1;obtain ⟨r1,r2,r3,r4,r5⟩:=id i2;have hDl:D < W.heap.size:=(Array.getElem?_eq_some_iff.1 hK).1;have HF:Hid (∀(A:Act) (q:Bool),(A={tmps:=A.tmps,defers:=[{target:=.collected D,args:=#[]}]}∧A.tmps[2]? =some (.pointer (some ⟨w.heap.size,0,none⟩)))->q=decide (20000 < (C:Int))->bodyPostM Fence.wide n Tryz.prog Tryz.f45 (λe W'=>Below w.heap.size w W'∧∃q:Bool,e=.returned (.bool q)∧(q=false↔(1+jk LL LL.length<=20000∧∀e,e∈LL->e.1<=1000))) .ret A (W.setCell ⟨w.heap.size,0,none⟩ (.bool q))):=λA q hA hq=>by
   have hs:=i2.set (.bool q) (Nat.le_refl _);refine fin D A q _ hA hD ?_ hs.1 hs.2.2.2.1 ?_
   .exact ((Kept.setCell (λc=>c≠w.heap.size) W ⟨w.heap.size,0,none⟩ (.bool q) (by simp)).block D hDl (by show D≠_;omega)).trans hK
   .subst hq
    rw [decide_eq_false_iff_not,<- hC];constructor
    .intro h
     exact ⟨by omega,i4⟩
    .intro h
     have:=h.1
     omega
  clear fin hC yc uG hseq
  gi_wp2_with fail
  exact HF.out _ _ ⟨rfl,rfl⟩ rfl
 case stop=>
  rintro D c i O W hD Vh hO _ ⟨rfl,i2,i3⟩ hK;have HF:=hide (λA hA=>fin D A true W hA hD hK i2.1 i2.2.2.2.1 ⟨λh=>absurd h (by decide),λh=>absurd h i3⟩);clear fin yc uG hseq
  gi_wp2_with fail
  exact HF.out _ ⟨rfl,rfl⟩
open Go.RowKit Go.Joins
def PX (v:Value):Option (DataW Value×List MemPlace):=some (.held v,[])
def pF:Value:=.agg #[]
def NM (w:World) (M n:Nat) (L:List ByteArray):Prop:=
 ∃D:DataW Value,w.ownsMap Tryz.prog 9 PX M n D∧∀t:ByteArray,(Maps.has D (.string t.data.toList)=true↔t∈L)∧D.atKey (.string t.data.toList) (.held pF)=.held pF
theorem NM.lt {w:World} {M n:Nat} {L:List ByteArray} (h:NM w M n L):M < w.heap.size:=by
 obtain ⟨D,hD,-⟩:=h;exact hD.lt
theorem NM.keep {w w':World} {M n:Nat} {L:List ByteArray} (h:NM w M n L) (hb:w'.heap[M]? =w.heap[M]?):NM w' M n L:=by
 exact zz234
theorem NM.below {w w':World} {M n m:Nat} {L:List ByteArray} (h:NM w M n L) (hb:Below m w w') (hm:M < m):NM w' M n L:=h.keep (hb.block M hm)
theorem NM.start (w:World):NM (w.alloc (.map #[] 0)) w.heap.size 0 []:=
 ⟨.map [],World.ownsMap_made w _ _ _,λt=>⟨by simp [Maps.has],by simp [DataW.atKey]⟩⟩
theorem PY (w:World):(zeroValue 239).run Tryz.prog w=.ok pF w:=by kernel_rfl
theorem Jc:Tryz.prog.underlying 240=some (.map 9 239):=by kernel_rfl
theorem NM.look {w:World} {M n:Nat} {L:List ByteArray} (h:NM w M n L) (t:ByteArray) (ht:t.size<=maxLen) (r:Bool) (hr:r=true↔t∈L):
  (Instr.lookup 240 (.map (some M)) (.string t) true).run Tryz.prog w=.ok (.tuple #[pF,.bool r]) w:=by
 obtain ⟨D,hD,hat⟩:=h;obtain ⟨v,ps,hrun,hv⟩:=hD.look_ok (Maps.string_keyed Tryz.underlying9) Jc (PY w) (zd:=.held pF) (zp:=[]) rfl (WideMaps.keyOf_string_mk Tryz.underlying9 ht);have e:Maps.has D (.string t.data.toList)=r:=by
  have h:=(hat t).1.trans hr.symm
  cases h1:Maps.has D (.string t.data.toList) <;> cases h2:r <;> simp_all
 rw [hrun,e];rw [(hat t).2] at hv;simp only [PX,Option.some.injEq,Prod.mk.injEq,DataW.held.injEq] at hv;rw [hv.1]
theorem NM.put {w':World} {M n:Nat} {L:List ByteArray} {D:DataW Value} {x:ByteArray} (hI:Maps.IsMap D)
  (hat:∀t:ByteArray,(Maps.has D (.string t.data.toList)=true↔t∈L)∧D.atKey (.string t.data.toList) (.held pF)=.held pF)
  (ho:w'.ownsMap Tryz.prog 9 PX M n (D.put (.string x.data.toList) (.held pF))):NM w' M n (x ::L):=by
 refine ⟨_,ho,λt=>?_⟩
 by_cases e:t=x
 .subst e
  rw [Maps.has_put_same hI (k:=.string t.data.toList) trivial,Maps.atKey_put_same hI (k:=.string t.data.toList) trivial]
  simp
 .have hne:(Lit.string t.data.toList)≠.string x.data.toList:=λh=>by
   injection h with h;exact e (ByteArray.ext (Array.ext' h))
  rw [Maps.has_put_other hne,Maps.atKey_put_other hne,(hat t).1,(hat t).2];simp [e]
theorem uO {H:Type} {P:Program} (w:World) {ops:Array Oper} {rest:List Oper} {o:Oper} {a:Act} {Q:Exit->Act->World->Prop}
  (hg:o.guard=none) (m x v:Operand) (t:TypeId) (hop:o.op=Op.insert t m x v)
  (k e:TypeId) (K:Maps.Keyed P k) (ht:P.underlying t=some (.map k e)) (R:Value->Option (DataW H×List MemPlace)) (b n:Nat) (D:DataW H)
  (hm:a.eval m=.map (some b)) (hown:w.ownsMap P k R b n D) (hn:n < maxLen) (key val:Value) (kl:Lit) (hx:a.eval x=key) (hv:a.eval v=val) (hkey:keyOf P k key=some kl)
  (d:DataW H) (ps:List MemPlace) (hval:R val=some (d,ps))
  (hK:∀w',w'.ownsMap P k R b (n+1) (D.put kl d)->w.grownBy w' (some b)->wpList P ops Q rest (a.put o.dst undef) w'):
  wpList P ops Q (o ::rest) a w:=by
 refine wpList_plain hg λK' hK'=>?_
 obtain ⟨w',hrun,r1,r2⟩:=hown.update K ht hn hkey hval;unfold Oper.wp;simp [execOp,hop,hm,hx,hv,hrun,Result.andThen];exact hK' _ _ (hK w' r1 r2)
def uo (L:List ByteArray) (i:Nat):List ByteArray:=(L.take i).reverse++[⟨#[]⟩]
theorem LJ {L:List ByteArray} {i:Nat} {x:ByteArray} (h:L[i]? =some x):uo L (i+1)=x ::uo L i:=by
 unfold uo;rw [List.take_add_one,h]
 simp
theorem SN {L:List ByteArray} {i:Nat} {x:ByteArray} (h:L[i]? =some x) (hx:x∈uo L i):¬bC L:=by
 rintro ⟨h1,h2⟩;unfold uo at hx;rw [List.mem_append,List.mem_reverse,List.mem_singleton] at hx;rcases hx with hx | hx
 .have hl:i < L.length:=(List.getElem?_eq_some_iff.1 h).1
  have e:=List.take_append_drop i L;rw [<- e,List.nodup_append] at h2;refine h2.2.2 x hx x ?_ rfl;rw [List.drop_eq_getElem_cons hl];have e2:=(List.getElem?_eq_some_iff.1 h).2;rw [e2];exact List.mem_cons_self
 .exact h1 x (List.mem_of_getElem? h) hx
theorem P7 {L:List ByteArray} {i:Nat} {x:ByteArray} (h:L[i]? =some x) (hx:¬x∈uo L i) (hk:bC (L.take i)):bC (L.take (i+1)):=by
 unfold uo at hx;rw [List.mem_append,List.mem_reverse,List.mem_singleton] at hx;rw [List.take_add_one,h];refine ⟨λy hy=>?_,?_⟩
 .rw [List.mem_append] at hy
  rcases hy with hy | hy
  .exact hk.1 y hy
  .simp only [Option.toList_some,List.mem_singleton] at hy
   subst hy;exact λe=>hx (Or.inr e)
 .simp only [Option.toList_some]
  rw [List.nodup_append];refine ⟨hk.2,by simp,λa ha b hb e=>?_⟩;rw [List.mem_singleton] at hb;subst hb;subst e;exact hx (Or.inl ha)
theorem Ak (a:Option Addr) (c:Nat) (L:List ByteArray) (W:World) (nb:Nat) (hnb:nb<=W.heap.size) (hmx:L.length<=16777216) (hs:SR W (λb=>b < nb) a c L) (hsz:∀x∈L,x.size<=maxLen) (q:Bool) (hq:q=true↔bC L):
  Calls Tryz.prog 167 #[.slice a L.length c] W λe W'=>e=.returned (.bool q)∧Below W.heap.size W W':=by
 have hmm:=@run_makeMap Tryz.prog;obtain ⟨n,hn⟩:∃n,n=L.length:=⟨_,rfl⟩
 rw [<- hn] at hmx ⊢;have HN:=hide hn;have HQ:=hide hq;have HS:=hide hs;have fZ:=hide hsz;have m0:=NM.start W;obtain ⟨D0,hown0,Ut⟩:=m0;have Uu:=hide Ut;have b0:=below_alloc1 W (.map #[] 0);have P8:=WideMaps.keyOf_string_mk Tryz.underlying9 (s:=⟨#[]⟩) (by decide);have HB0:=hide b0;clear hn hq hs hsz Ut b0;go_enter Tryz.func167,Tryz.ntmps167;go_wp2_with (first | (refine uO _ rfl _ _ _ 240 rfl 9 239 (Maps.string_keyed Tryz.underlying9) Jc PX W.heap.size 0 D0 rfl hown0 (by unfold maxLen;omega) _ _ _ rfl rfl P8 _ [] rfl ?_;intro w2 hown2 hg2) | fail);have om:Hid (NM w2 W.heap.size (0+1) (uo L 0)):=NM.put hown0.isMap Uu.out hown2;have HB1:Hid (Below W.heap.size W w2):=HB0.out.grown hg2 HB0.out.size (λk hk=>by cases hk;exact Nat.le_refl _);clear hown2 hg2 hown0 Uu HB0 P8
 go_loopw [13] (λs13 wr=>∃i:Nat,s13=.int .i64 i∧i<=n∧Hid (NM wr W.heap.size (i+1) (uo L i))∧Hid (Below W.heap.size W wr)∧Hid (bC (L.take i))) (λs13 _=>n - (intOf s13).toNat)
 case atStart=>exact ⟨0,rfl,Nat.zero_le _,om,HB1,⟨λx hx=>by simp at hx,by simp⟩⟩
 case round=>
  obtain ⟨i,rfl,hin,hm,rf,hok⟩:=hrel
  by_cases hl:i < n
  .obtain ⟨x,hx⟩:∃x,L[i]? =some x:=⟨_,List.getElem?_eq_getElem (by rw [<- HN.out];exact hl)⟩
   have hl':(i:Int) < n:=by omega
   have hne:L≠[]:=λe=>by rw [e] at hx;simp at hx
   obtain ⟨b,o,rfl,hb,hrw⟩:=HS.out.at_ hne;have hce:wr.cell? ⟨b,o+i,none⟩=some (.string x):=(rf.out.cell (p:=⟨b,o+i,none⟩) (by show b < _;omega)).trans (hrw i x hx);have hxs:=fZ.out x (List.mem_of_getElem? hx);have hkey:=WideMaps.keyOf_string_mk Tryz.underlying9 hxs
   by_cases hmem:x∈uo L i
   .have hlk:=hm.out.look x hxs true (by simp [hmem])
    have WM:Hid (q=false):=by
     have:=SN hx hmem
     cases hq2:q with
     | false=>rfl
     | true=>exact absurd (HQ.out.1 hq2) this
    have hu:pF=.agg #[]:=rfl;rw [hu] at hlk;clear hx hrw hne hmem hm hu;go_wp2_with fail;go_ret;exact ⟨by rw [WM.out];rfl,rf.out.alloc rf.out.size _⟩
   .have hlk:=hm.out.look x hxs false (by simp [hmem])
    have hu:pF=.agg #[]:=rfl;rw [hu] at hlk;have ba:=below_alloc1 wr (.cells #[] 239);obtain ⟨D,hown,hat⟩:=hm.out.below ba hm.out.lt;have HAT:=hide hat;have HB2:Hid (Below W.heap.size W (wr.alloc (.cells #[] 239))):=rf.out.alloc rf.out.size _;have IC:=hide (P7 hx hmem hok.out);have Cw:=hide (LJ hx);have hlt:=hm.out.lt;clear hx hrw hne hmem hm hat ba hu;go_wp2_with (first | (at_mapUpdate;refine wpList_mapUpdate_own _ rfl _ _ _ 240 rfl 9 239 (Maps.string_keyed Tryz.underlying9) Jc PX W.heap.size (i+1) D rfl hown (by unfold maxLen;omega) _ _ _ rfl rfl hkey _ [] rfl ?_;intro w3 hown3 hg3) | fail);go_roundw
    case rel=>
     refine ⟨i+1,by go_num,by omega,?_,HB2.out.grown hg3 HB2.out.size (λk hk=>by cases hk;exact Nat.le_refl _),IC⟩;show NM _ _ _ _;rw [Cw.out];exact NM.put hown.isMap HAT.out hown3
    case measure=>simp [intOf];omega
  .obtain rfl:i=n:=by omega
   have hji:¬(i:Int) < i:=by omega
   have WM:Hid (q=true):=by
    have h:=hok.out;rw [HN.out,List.take_length] at h;exact HQ.out.2 h
   clear hm;go_wp2_with fail;go_ret;exact ⟨by rw [WM.out];rfl,rf.out⟩
def hw (b:Bool) (m h:Int):Int:=if b then bits .or .i64 h m else h
def only (al:Int) (b1 b2 b3 b4 b5:Bool):Bool:=bits .andNot .i64 (hw b5 16 (hw b4 8 (hw b3 4 (hw b2 2 (hw b1 1 0))))) al==0
theorem CJ (b1 b2 b3 b4 b5:Bool):only 1 b1 b2 b3 b4 b5=(!b2 && !b3 && !b4 && !b5):=by cases b1 <;> cases b2 <;> cases b3 <;> cases b4 <;> cases b5 <;> rfl
theorem QD (b1 b2 b3 b4 b5:Bool):only 2 b1 b2 b3 b4 b5=(!b1 && !b3 && !b4 && !b5):=by cases b1 <;> cases b2 <;> cases b3 <;> cases b4 <;> cases b5 <;> rfl
theorem RY (b1 b2 b3 b4 b5:Bool):only 8 b1 b2 b3 b4 b5=(!b1 && !b2 && !b3 && !b5):=by cases b1 <;> cases b2 <;> cases b3 <;> cases b4 <;> cases b5 <;> rfl
theorem JH (b1 b2 b3 b4 b5:Bool):only 9 b1 b2 b3 b4 b5=(!b2 && !b3 && !b5):=by cases b1 <;> cases b2 <;> cases b3 <;> cases b4 <;> cases b5 <;> rfl
theorem Ej (b1 b2 b3 b4 b5:Bool):only 12 b1 b2 b3 b4 b5=(!b1 && !b2 && !b5):=by cases b1 <;> cases b2 <;> cases b3 <;> cases b4 <;> cases b5 <;> rfl
theorem O3 (b1 b2 b3 b4 b5:Bool):only 25 b1 b2 b3 b4 b5=(!b2 && !b3):=by cases b1 <;> cases b2 <;> cases b3 <;> cases b4 <;> cases b5 <;> rfl
theorem lV (al:Int) (d:Nd) (k:Int) (nm:ByteArray) (mn:Bool) (la na ka aa:Option Addr) (ln lc nn nc kn kc an ac:Nat) (W:World)
  (hc:bD W [.int .i64 k,.string nm,.bool mn,.slice la ln lc,.slice na nn nc,.slice ka kn kc,.slice aa an ac] d.b d.o) (hb:d.b < W.heap.size)
  (q:Bool) (hq:q=only al (!nm.toList.isEmpty) (mn || decide (0 < ln)) (decide (0 < nn)) (decide (0 < kn)) (decide (0 < an))):
  Calls Tryz.prog 156 #[.agg #[d.ptr],.int .i64 al] W λe W'=>e=.returned (.bool q)∧Below W.heap.size W W':=by
 have HB:=hide (below_alloc1 W (.cells #[.pointer (some ⟨d.b,d.o,none⟩)] 116));have c1:=hc.below HB.out hb 1 _ rfl;have c2:=hc.below HB.out hb 2 _ rfl;have c3:=hc.below HB.out hb 3 _ rfl;have c4:=hc.below HB.out hb 4 _ rfl;have c5:=hc.below HB.out hb 5 _ rfl;have c6:=hc.below HB.out hb 6 _ rfl;simp only [Nd.ptr];have HQ:=hide hq;clear hc hq hb;go_enter Tryz.func156,Tryz.ntmps156;go_wp2_with fail
 all_goals
  go_ret;refine ⟨?_,HB.out⟩;rw [HQ.out];show Ending.returned (.bool _)=Ending.returned (.bool _);clear HB HQ c1 c2 c3 c4 c5 c6;simp [only,hw, *]
end Go.Proofs.YthfnobboalhihaaGreat.C
namespace Go.Proofs.YthfnobboalhihaaGreat
open Go.RowKit Go.Joins
theorem zz49 {P:Prop} (h:P:=by
 go_wp2_with (refine (HO.out _ (Below.refl _ _)).mono ?_;rintro e w1 ⟨rfl,b1⟩);go_ret;exact ⟨by rw [HQ.out];rfl,HB.out.trans (b1.mono HB.out.size)⟩):P:=h
end Go.Proofs.YthfnobboalhihaaGreat
namespace Go.Proofs.YthfnobboalhihaaGreat.C
open Go.RowKit Go.Joins
theorem kH (x:ByteArray):x.toList.isEmpty=true↔x=⟨#[]⟩:=by rw [List.isEmpty_iff,bJ]
structure Wc (d:Nd) (k:Int) (nm:ByteArray) (mn:Bool) (la na ka aa:Option Addr) (lc nc kn kc an ac:Nat) (lm:List Int) (ns:List ByteArray) (al:Tm) (W:World):Prop where
 hc:bD W [.int .i64 k,.string nm,.bool mn,.slice la lm.length lc,.slice na ns.length nc,.slice ka kn kc,.slice aa an ac] d.b d.o
 hb:d.b < W.heap.size
 hl:LR W (λb=>b < W.heap.size) la lc lm
 hn:SR W (λb=>b < W.heap.size) na nc ns
 hmx:ns.length<=16777216∧lm.length<=16777216
 hnz:∀x∈ns,x.size<=maxLen
 hkn:kn<=16777216
 ed:an<=16777216
 hal:al.len=an
 hnm:nm.size<=maxLen
theorem lg1 (P:Prop) (e m:Bool) (n3 n4 kn an:Nat) (en:e=true↔P):(n3=0∧m=false∧an=0∧n4=0∧¬P∧kn=0)↔((!e) && (!(m || decide (0 < n3)) && !decide (0 < n4) && !decide (0 < kn) && !decide (0 < an)))=true:=by
 cases e <;> cases m <;> simp at en <;> simp [en] <;> omega
theorem lg3 (z:Nat) (m:Bool) (n3 n4 kn an:Nat):(n3=0∧m=false∧an=0∧n4=0∧z=1∧kn=0)↔(decide ((z:Int)=1) && (!(m || decide (0 < n3)) && !decide (0 < n4) && !decide (0 < kn) && !decide (0 < an)))=true:=by
 cases m <;> simp <;> omega
theorem lg4 (P:Prop) (e m:Bool) (n3 n4 an:Nat) (en:e=true↔P):(n3=0∧m=false∧an=0∧n4=0∧¬P)↔((!e) && (!(m || decide (0 < n3)) && !decide (0 < n4) && !decide (0 < an)))=true:=by
 cases e <;> cases m <;> simp at en <;> simp [en] <;> omega
theorem lg5 (P:Prop) (e m:Bool) (n3 n4 kn an:Nat) (en:e=true↔P):(n3=0∧m=false∧an=0∧n4=0∧P∧2<=kn)↔(decide ((1:Int) < kn) && (!(!e) && !(m || decide (0 < n3)) && !decide (0 < n4) && !decide (0 < an)))=true:=by
 cases e <;> cases m <;> simp at en <;> simp [en] <;> omega
theorem XH (P:Prop) (e m:Bool) (z n3 n4 kn an:Nat) (en:e=true↔P):(n3=0∧m=false∧an=0∧n4=0∧¬P∧z<=60000∧kn=0)↔((!e && decide ((z:Int)<=60000)) && (!(m || decide (0 < n3)) && !decide (0 < n4) && !decide (0 < kn) && !decide (0 < an)))=true:=by
 cases e <;> cases m <;> simp at en <;> simp [en] <;> omega
theorem w_1 (d:Nd) (au:ByteArray) (cs:List ByteArray) (nm:ByteArray) (mn:Bool) (la na ka aa:Option Addr) (lc nc kn kc an ac:Nat) (lm:List Int) (ns:List ByteArray) (al:Tm) (W:World) (hh:Wc d 1 nm mn la na ka aa lc nc kn kc an ac lm ns al W) (q:Bool) (hq:q=true↔fA ⟨au,cs,1,nm,mn,lm,ns⟩ kn al):
  Calls Tryz.prog 155 #[.agg #[d.ptr]] W λe W'=>e=.returned (.bool q)∧Below W.heap.size W W':=by
 obtain ⟨hc,hb,hl,hn,hmx,hnz,hkn,ed,hal,hnm⟩:=hh;rw [Ct] at hq;obtain ⟨n3,aD⟩:∃n,n=lm.length:=⟨_,rfl⟩
 obtain ⟨n4,aC⟩:∃n,n=ns.length:=⟨_,rfl⟩
 have el:lm=[]↔n3=0:=by rw [aD];exact List.length_eq_zero_iff.symm
 have es:ns=[]↔n4=0:=by rw [aC];exact List.length_eq_zero_iff.symm
 have en:=kH nm;have hx1:nm.size<=9223372036854775807:=hnm;have hx3:n3<=16777216:=by omega
 have hx4:n4<=16777216:=by omega
 simp only [Nd.ptr];have hB:=below_alloc1 W (.cells #[.pointer (some ⟨d.b,d.o,none⟩)] 118);have hc0:=hc.below hB hb;have hb0:=Nat.lt_of_lt_of_le hb hB.size;rw [<- aD,<- aC] at hc0;obtain ⟨r,hr⟩:∃r,r=only 1 (!nm.toList.isEmpty) (mn || decide (0 < n3)) (decide (0 < n4)) (decide (0 < kn)) (decide (0 < an)):=⟨_,rfl⟩
 have HO:=hide (λV (b:Below (W.alloc (.cells #[.pointer (some ⟨d.b,d.o,none⟩)] 118)).heap.size (W.alloc (.cells #[.pointer (some ⟨d.b,d.o,none⟩)] 118)) V)=>lV 1 d 1 nm mn la na ka aa n3 lc n4 nc kn kc an ac V (hc0.below b hb0) (Nat.lt_of_lt_of_le hb0 b.size) r hr);simp only [Nd.ptr] at HO;have c1:=hc0 1 _ rfl;have c2:=hc0 2 _ rfl;have c3:=hc0 3 _ rfl;have c4:=hc0 4 _ rfl;have c5:=hc0 5 _ rfl;have c6:=hc0 6 _ rfl;have HB:=hide hB;rw [CJ] at hr;have iy:q=(!nm.toList.isEmpty && r):=Bool.eq_iff_iff.2 (hq.trans (by rw [hr,hal,el,es];exact lg1 _ _ _ _ _ _ _ en))
 cases hA:!nm.toList.isEmpty with
 | true=>
  have HQ:Hid (q=r):=by unfold Hid;rw [iy,hA];rfl
  have g':nm.toList.isEmpty=false:=by simpa using hA
  clear hq hr el es en aD aC hc hc0 hB hl hn hal hnz hb hb0 hnm iy hA;go_enter Tryz.func155,Tryz.ntmps155;exact zz49
 | false=>
  have HQ:Hid (q=false):=by unfold Hid;rw [iy,hA];rfl
  have g':nm.toList.isEmpty=true:=by simpa using hA
  clear hq hr el es en aD aC hc hc0 hB hl hn hal hnz hb hb0 hnm iy hA;go_enter Tryz.func155,Tryz.ntmps155;exact zz35
theorem w_3 (d:Nd) (au:ByteArray) (cs:List ByteArray) (nm:ByteArray) (mn:Bool) (la na ka aa:Option Addr) (lc nc kn kc an ac:Nat) (lm:List Int) (ns:List ByteArray) (al:Tm) (W:World) (hh:Wc d 3 nm mn la na ka aa lc nc kn kc an ac lm ns al W) (q:Bool) (hq:q=true↔fA ⟨au,cs,3,nm,mn,lm,ns⟩ kn al):
  Calls Tryz.prog 160 #[.agg #[d.ptr]] W λe W'=>e=.returned (.bool q)∧Below W.heap.size W W':=by
 obtain ⟨hc,hb,hl,hn,hmx,hnz,hkn,ed,hal,hnm⟩:=hh;rw [Nl] at hq;obtain ⟨n3,aD⟩:∃n,n=lm.length:=⟨_,rfl⟩
 obtain ⟨n4,aC⟩:∃n,n=ns.length:=⟨_,rfl⟩
 have el:lm=[]↔n3=0:=by rw [aD];exact List.length_eq_zero_iff.symm
 have es:ns=[]↔n4=0:=by rw [aC];exact List.length_eq_zero_iff.symm
 have en:=kH nm;have hx1:nm.size<=9223372036854775807:=hnm;have hx3:n3<=16777216:=by omega
 have hx4:n4<=16777216:=by omega
 simp only [Nd.ptr];have hB:=below_alloc1 W (.cells #[.pointer (some ⟨d.b,d.o,none⟩)] 120);have hc0:=hc.below hB hb;have hb0:=Nat.lt_of_lt_of_le hb hB.size;rw [<- aD,<- aC] at hc0;obtain ⟨r,hr⟩:∃r,r=only 1 (!nm.toList.isEmpty) (mn || decide (0 < n3)) (decide (0 < n4)) (decide (0 < kn)) (decide (0 < an)):=⟨_,rfl⟩
 have HO:=hide (λV (b:Below (W.alloc (.cells #[.pointer (some ⟨d.b,d.o,none⟩)] 120)).heap.size (W.alloc (.cells #[.pointer (some ⟨d.b,d.o,none⟩)] 120)) V)=>lV 1 d 3 nm mn la na ka aa n3 lc n4 nc kn kc an ac V (hc0.below b hb0) (Nat.lt_of_lt_of_le hb0 b.size) r hr);simp only [Nd.ptr] at HO;have c1:=hc0 1 _ rfl;have c2:=hc0 2 _ rfl;have c3:=hc0 3 _ rfl;have c4:=hc0 4 _ rfl;have c5:=hc0 5 _ rfl;have c6:=hc0 6 _ rfl;have HB:=hide hB;rw [CJ] at hr;have iy:q=(decide ((nm.size:Int)=1) && r):=Bool.eq_iff_iff.2 (hq.trans (by rw [hr,hal,el,es];exact lg3 _ _ _ _ _ _))
 cases hA:decide ((nm.size:Int)=1) with
 | true=>
  have HQ:Hid (q=r):=by unfold Hid;rw [iy,hA];rfl
  have g':(nm.size:Int)=1:=by simpa using hA
  clear hq hr el es en aD aC hc hc0 hB hl hn hal hnz hb hb0 hnm iy hA;go_enter Tryz.func160,Tryz.ntmps160;exact zz49
 | false=>
  have HQ:Hid (q=false):=by unfold Hid;rw [iy,hA];rfl
  have g':¬(nm.size:Int)=1:=by simpa using hA
  clear hq hr el es en aD aC hc hc0 hB hl hn hal hnz hb hb0 hnm iy hA;go_enter Tryz.func160,Tryz.ntmps160;exact zz35
theorem w_4 (d:Nd) (au:ByteArray) (cs:List ByteArray) (nm:ByteArray) (mn:Bool) (la na ka aa:Option Addr) (lc nc kn kc an ac:Nat) (lm:List Int) (ns:List ByteArray) (al:Tm) (W:World) (hh:Wc d 4 nm mn la na ka aa lc nc kn kc an ac lm ns al W) (q:Bool) (hq:q=true↔fA ⟨au,cs,4,nm,mn,lm,ns⟩ kn al):
  Calls Tryz.prog 162 #[.agg #[d.ptr]] W λe W'=>e=.returned (.bool q)∧Below W.heap.size W W':=by
 obtain ⟨hc,hb,hl,hn,hmx,hnz,hkn,ed,hal,hnm⟩:=hh;rw [Nn] at hq;obtain ⟨n3,aD⟩:∃n,n=lm.length:=⟨_,rfl⟩
 obtain ⟨n4,aC⟩:∃n,n=ns.length:=⟨_,rfl⟩
 have el:lm=[]↔n3=0:=by rw [aD];exact List.length_eq_zero_iff.symm
 have es:ns=[]↔n4=0:=by rw [aC];exact List.length_eq_zero_iff.symm
 have en:=kH nm;have hx1:nm.size<=9223372036854775807:=hnm;have hx3:n3<=16777216:=by omega
 have hx4:n4<=16777216:=by omega
 simp only [Nd.ptr];have hB:=below_alloc1 W (.cells #[.pointer (some ⟨d.b,d.o,none⟩)] 121);have hc0:=hc.below hB hb;have hb0:=Nat.lt_of_lt_of_le hb hB.size;rw [<- aD,<- aC] at hc0;obtain ⟨r,hr⟩:∃r,r=only 9 (!nm.toList.isEmpty) (mn || decide (0 < n3)) (decide (0 < n4)) (decide (0 < kn)) (decide (0 < an)):=⟨_,rfl⟩
 have HO:=hide (λV (b:Below (W.alloc (.cells #[.pointer (some ⟨d.b,d.o,none⟩)] 121)).heap.size (W.alloc (.cells #[.pointer (some ⟨d.b,d.o,none⟩)] 121)) V)=>lV 9 d 4 nm mn la na ka aa n3 lc n4 nc kn kc an ac V (hc0.below b hb0) (Nat.lt_of_lt_of_le hb0 b.size) r hr);simp only [Nd.ptr] at HO;have c1:=hc0 1 _ rfl;have c2:=hc0 2 _ rfl;have c3:=hc0 3 _ rfl;have c4:=hc0 4 _ rfl;have c5:=hc0 5 _ rfl;have c6:=hc0 6 _ rfl;have HB:=hide hB;rw [JH] at hr;have iy:q=(!nm.toList.isEmpty && r):=Bool.eq_iff_iff.2 (hq.trans (by rw [hr,hal,el,es];exact lg4 _ _ _ _ _ _ en))
 cases hA:!nm.toList.isEmpty with
 | true=>
  have HQ:Hid (q=r):=by unfold Hid;rw [iy,hA];rfl
  have g':nm.toList.isEmpty=false:=by simpa using hA
  clear hq hr el es en aD aC hc hc0 hB hl hn hal hnz hb hb0 hnm iy hA;go_enter Tryz.func162,Tryz.ntmps162;exact zz49
 | false=>
  have HQ:Hid (q=false):=by unfold Hid;rw [iy,hA];rfl
  have g':nm.toList.isEmpty=true:=by simpa using hA
  clear hq hr el es en aD aC hc hc0 hB hl hn hal hnz hb hb0 hnm iy hA;go_enter Tryz.func162,Tryz.ntmps162;exact zz35
theorem w_5 (d:Nd) (au:ByteArray) (cs:List ByteArray) (nm:ByteArray) (mn:Bool) (la na ka aa:Option Addr) (lc nc kn kc an ac:Nat) (lm:List Int) (ns:List ByteArray) (al:Tm) (W:World) (hh:Wc d 5 nm mn la na ka aa lc nc kn kc an ac lm ns al W) (q:Bool) (hq:q=true↔fA ⟨au,cs,5,nm,mn,lm,ns⟩ kn al):
  Calls Tryz.prog 163 #[.agg #[d.ptr]] W λe W'=>e=.returned (.bool q)∧Below W.heap.size W W':=by
 obtain ⟨hc,hb,hl,hn,hmx,hnz,hkn,ed,hal,hnm⟩:=hh;rw [Np] at hq;obtain ⟨n3,aD⟩:∃n,n=lm.length:=⟨_,rfl⟩
 obtain ⟨n4,aC⟩:∃n,n=ns.length:=⟨_,rfl⟩
 have el:lm=[]↔n3=0:=by rw [aD];exact List.length_eq_zero_iff.symm
 have es:ns=[]↔n4=0:=by rw [aC];exact List.length_eq_zero_iff.symm
 have en:=kH nm;have hx1:nm.size<=9223372036854775807:=hnm;have hx3:n3<=16777216:=by omega
 have hx4:n4<=16777216:=by omega
 simp only [Nd.ptr];have hB:=below_alloc1 W (.cells #[.pointer (some ⟨d.b,d.o,none⟩)] 122);have hc0:=hc.below hB hb;have hb0:=Nat.lt_of_lt_of_le hb hB.size;rw [<- aD,<- aC] at hc0;obtain ⟨r,hr⟩:∃r,r=only 8 (!nm.toList.isEmpty) (mn || decide (0 < n3)) (decide (0 < n4)) (decide (0 < kn)) (decide (0 < an)):=⟨_,rfl⟩
 have HO:=hide (λV (b:Below (W.alloc (.cells #[.pointer (some ⟨d.b,d.o,none⟩)] 122)).heap.size (W.alloc (.cells #[.pointer (some ⟨d.b,d.o,none⟩)] 122)) V)=>lV 8 d 5 nm mn la na ka aa n3 lc n4 nc kn kc an ac V (hc0.below b hb0) (Nat.lt_of_lt_of_le hb0 b.size) r hr);simp only [Nd.ptr] at HO;have c1:=hc0 1 _ rfl;have c2:=hc0 2 _ rfl;have c3:=hc0 3 _ rfl;have c4:=hc0 4 _ rfl;have c5:=hc0 5 _ rfl;have c6:=hc0 6 _ rfl;have HB:=hide hB;rw [RY] at hr;have iy:q=(decide ((1:Int) < kn) && r):=Bool.eq_iff_iff.2 (hq.trans (by rw [hr,hal,el,es];exact lg5 _ _ _ _ _ _ _ en))
 cases hA:decide ((1:Int) < kn) with
 | true=>
  have HQ:Hid (q=r):=by unfold Hid;rw [iy,hA];rfl
  have g':(1:Int) < kn:=by simpa using hA
  clear hq hr el es en aD aC hc hc0 hB hl hn hal hnz hb hb0 hnm iy hA;go_enter Tryz.func163,Tryz.ntmps163;exact zz49
 | false=>
  have HQ:Hid (q=false):=by unfold Hid;rw [iy,hA];rfl
  have g':¬(1:Int) < kn:=by simpa using hA
  clear hq hr el es en aD aC hc hc0 hB hl hn hal hnz hb hb0 hnm iy hA;go_enter Tryz.func163,Tryz.ntmps163;exact zz35
theorem UQ (mn:Bool) (a:Option Addr) (c:Nat) (lm:List Int) (W:World) (nb:Nat) (hnb:nb<=W.heap.size) (hs:LR W (λb=>b < nb) a c lm) (q:Bool) (hq:q=true↔iL mn lm):
  Calls Tryz.prog 159 #[.agg #[.bool mn,.slice a lm.length c]] W λe W'=>e=.returned (.bool q)∧Below W.heap.size W W':=by
 obtain ⟨n,hn⟩:∃n,n=lm.length:=⟨_,rfl⟩
 have hmx:n<=9223372036854775807:=by have h2:=hs.le;have h3:=hs.mx;simp only [maxLen] at h3;omega
 have HB:=hide (below_alloc1 W (.cells #[.bool mn,.slice a n c] 31));rw [<- hn]
 by_cases g2:0 < n
 .have hne:lm≠[]:=λe=>by rw [e] at hn;simp at hn;omega
  have g3':¬(n:Int)=0:=by omega
  by_cases g1:40 < n
  .have HQ:Hid (q=true):=hq.2 (.inl (by omega))
   have g1':(40:Int) < n:=by omega
   clear hq hs hn hne;go_enter Tryz.func159,Tryz.ntmps159;exact zz35
  have g1':¬(40:Int) < n:=by omega
  have hs':=hs.below HB.out (λb hb=>by omega);obtain ⟨b,o,rfl,-,hc⟩:=hs'.at_ hne;obtain ⟨y,hy⟩:∃y,lm[n - 1]? =some y:=⟨_,List.getElem?_eq_getElem (by omega)⟩
  have y0:=hc (n - 1) y hy;obtain ⟨n1,hn1⟩:∃n1,n=n1+1:=⟨n - 1,by omega⟩
  have e1:n - 1=n1:=by omega
  rw [e1] at y0
  by_cases g3:y=0
  .have HQ:Hid (q=true):=hq.2 (.inr (.inl ⟨hne,by rw [<- hn,hy,g3]⟩))
   have e2:(n:Int) - 1=n1:=by omega
   have e3:(n1:Int) < n:=by omega
   clear hq hs hn hs' hc hy hne hn1 e1;subst g3;go_enter Tryz.func159,Tryz.ntmps159;exact zz35
  .have HQ:Hid (q=false):=by
    exact zz126
   have e2:(n:Int) - 1=n1:=by omega
   have e3:(n1:Int) < n:=by omega
   have Xu:(y==0)=false:=by rw [beq_eq_false_iff_ne];exact g3
   clear hq hs hn hs' hc hy hne hn1 e1;go_enter Tryz.func159,Tryz.ntmps159;exact zz35
 .have e0:n=0:=by omega
  have hne:lm=[]:=List.length_eq_zero_iff.1 (by omega);have HQ:Hid (q=mn):=by
   exact zz107
  clear hq hs hn hne;subst e0;go_enter Tryz.func159,Tryz.ntmps159;exact zz35
theorem El (d:Nd) (k:Int) (nm:ByteArray) (mn:Bool) (la na ka aa:Option Addr) (lc nc kn kc an ac:Nat) (lm:List Int) (ns:List ByteArray) (al:Tm) (W:World) (hh:Wc d k nm mn la na ka aa lc nc kn kc an ac lm ns al W) (q:Bool) (hq:q=true↔(¬ns=[]∧bC ns)):
  Calls Tryz.prog 150 #[.agg #[d.ptr]] W λe W'=>e=.returned (.bool q)∧Below W.heap.size W W':=by
 obtain ⟨hc,hb,hl,hn,hmx,hnz,hkn,ed,hal,hnm⟩:=hh;simp only [Nd.ptr];have hB:=below_alloc1 W (.cells #[.pointer (some ⟨d.b,d.o,none⟩)] 116);have hc0:=hc.below hB hb;have c4:=hc0 4 _ rfl;have HB:=hide hB
 by_cases g:ns=[]
 .have HQ:Hid (q=false):=by
   cases hqq:q with
   | false=>rfl
   | true=>exact absurd g (hq.1 hqq).1
  rw [g] at c4;clear hq hc hc0 hB hl hn hal hnz hb hnm g;go_enter Tryz.func150,Tryz.ntmps150;exact zz35
 .have ZG:q=true↔bC ns:=by rw [hq];exact ⟨λh=>h.2,λh=>⟨g,h⟩⟩
  have HN:=hide (Ak na nc ns _ W.heap.size hB.size hmx.1 (hn.below hB (λb hb=>hb)) hnz q ZG);obtain ⟨n4,aC⟩:∃n,n=ns.length:=⟨_,rfl⟩
  have hp:(0:Int) < n4:=by have:=List.length_pos_iff.2 g;omega
  have hx4:n4<=16777216:=by omega
  rw [<- aC] at HN c4;clear hq hc hc0 hB hl hn hal hnz hb hnm g aC ZG;go_enter Tryz.func150,Tryz.ntmps150;go_wp2_with (refine HN.out.mono ?_;rintro e w1 ⟨rfl,b1⟩);go_ret;exact ⟨rfl,HB.out.trans (b1.mono HB.out.size)⟩
end Go.Proofs.YthfnobboalhihaaGreat.C
