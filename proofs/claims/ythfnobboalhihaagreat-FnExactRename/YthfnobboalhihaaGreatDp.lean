import Derived.Test.YthfnobboalhihaaGreatDn
set_option maxHeartbeats 4000000
set_option maxRecDepth 100000
namespace Go.Proofs.YthfnobboalhihaaGreat.C
open Go.RowKit Go.Joins
def Eu (k:Int):Nat:=if k=1 then 155 else if k=2 then 157 else if k=3 then 160 else if k=4 then 162 else if k=5 then 163 else if k=6 then 165 else if k=7 then 168 else if k=8 then 171 else if k=9 then 175 else if k=10 then 177 else 152
theorem nT (d:Nd) (W:World) (hd:d.Ok W (λb=>b < W.heap.size)) (hsz:d.x.size<=16777216) (h:Hd) (ks al:Tm) (he:di d.x=.nd h ks al .nil) (q:Bool) (hq:q=true↔fA h ks.len al):
  Calls Tryz.prog (Eu h.k) #[.agg #[d.ptr]] W λe W'=>e=.returned (.bool q)∧Below W.heap.size W W':=by
 have hat:=hd.at_;have rU:=hd.ae;have hsub:=hd.subs;have hfit:=hd.fit;obtain ⟨b,o,x⟩:=d;simp only at hat rU hsub hfit hsz he;obtain ⟨k,nm,mn,la,ln,lc,lk,na,nn,nc,nk,ka,kn,kc,kk,aa,an,ac,ak,rfl,-,hnm,h3,h4,h5,h6⟩:=ag hfit;obtain ⟨hs3,hs4,hs5,hs6,-⟩:=hsub;rw [eT,dB] at he;obtain ⟨rfl,rfl,rfl,-⟩:=Tm.nd.inj he;simp only [Fo.vals] at rU;rw [pJ kn kk h5] at hq;obtain ⟨hlr,hll⟩:=Mk h3 hs3;obtain ⟨pR,hsl⟩:=CX h4 hs4;have hal:=kz an ak h6;have hlz:∀{n w:Nat} {F:Fo} {k':Nat},Fit E F (rep (E k') n)->(E k').length=w->0 < w->n<=F.size:=λ{n w F k'} h e hw=>by
  exact zz222
 have z5:=hlz h5 rfl (by decide);have z6:=hlz h6 rfl (by decide);have z4:=hlz h4 rfl (by decide);have z3:=hlz h3 rfl (by decide);simp only [Fo.size] at hsz;have hh:∀x',Wc ⟨b,o,x'⟩ k nm mn la na ka aa lc nc kn kc an ac (gW lk) (eU nk) (aV ak) W:=λ_=>⟨by rw [hll,hsl];exact rU,hat,hlr,pR,⟨by omega,by omega⟩,CY _ _ h4,by omega,by omega,hal,hnm⟩
 simp only [Eu]
 by_cases e1:k=1
 .subst e1
  exact w_1 _ _ _ nm mn la na ka aa lc nc kn kc an ac (gW lk) (eU nk) (aV ak) W (hh _) q hq
 by_cases e2:k=2
 .subst e2
  exact w_2 _ _ _ nm mn la na ka aa lc nc kn kc an ac (gW lk) (eU nk) (aV ak) W (hh _) q hq
 by_cases e3:k=3
 .subst e3
  exact w_3 _ _ _ nm mn la na ka aa lc nc kn kc an ac (gW lk) (eU nk) (aV ak) W (hh _) q hq
 by_cases e4:k=4
 .subst e4
  exact w_4 _ _ _ nm mn la na ka aa lc nc kn kc an ac (gW lk) (eU nk) (aV ak) W (hh _) q hq
 by_cases e5:k=5
 .subst e5
  exact w_5 _ _ _ nm mn la na ka aa lc nc kn kc an ac (gW lk) (eU nk) (aV ak) W (hh _) q hq
 by_cases e6:k=6
 .subst e6
  exact w_6 _ _ _ nm mn la na ka aa lc nc kn kc an ac (gW lk) (eU nk) (aV ak) W (hh _) q hq
 by_cases e7:k=7
 .subst e7
  exact w_7 _ _ _ nm mn la na ka aa lc nc kn kc an ac (gW lk) (eU nk) (aV ak) W (hh _) q hq
 by_cases e8:k=8
 .subst e8
  exact w_8 _ _ _ nm mn la na ka aa lc nc kn kc an ac (gW lk) (eU nk) ak W (hh _) h6 hs6 (by omega) q hq
 by_cases e9:k=9
 .subst e9
  exact w_9 _ _ _ nm mn la na ka aa lc nc kn kc an ac (gW lk) (eU nk) (aV ak) W (hh _) q hq
 by_cases e10:k=10
 .subst e10
  exact XG _ _ _ nm mn la na ka aa lc nc kn kc an ac (gW lk) (eU nk) (aV ak) W (hh _) q hq
 rw [if_neg e1,if_neg e2,if_neg e3,if_neg e4,if_neg e5,if_neg e6,if_neg e7,if_neg e8,if_neg e9,if_neg e10];have hF:q=false:=by
  cases hqq:q with
  | false=>rfl
  | true=>exact absurd (hq.1 hqq) (zk _ _ _ e1 e2 e3 e4 e5 e6 e7 e8 e9 e10)
 rw [hF];exact w_0 _ W
theorem XV (v:Value) (w:World):(method (Tryz.prog.types.size+100) 116 v "loop.example/g00017/impl.isWhole").run Tryz.prog w=.ok (152,v) w:=by kernel_rfl
theorem XW (v:Value) (w:World):(method (Tryz.prog.types.size+100) 118 v "loop.example/g00017/impl.isWhole").run Tryz.prog w=.ok (155,v) w:=by kernel_rfl
theorem XX (v:Value) (w:World):(method (Tryz.prog.types.size+100) 119 v "loop.example/g00017/impl.isWhole").run Tryz.prog w=.ok (157,v) w:=by kernel_rfl
theorem XY (v:Value) (w:World):(method (Tryz.prog.types.size+100) 120 v "loop.example/g00017/impl.isWhole").run Tryz.prog w=.ok (160,v) w:=by kernel_rfl
theorem XZ (v:Value) (w:World):(method (Tryz.prog.types.size+100) 121 v "loop.example/g00017/impl.isWhole").run Tryz.prog w=.ok (162,v) w:=by kernel_rfl
theorem X7 (v:Value) (w:World):(method (Tryz.prog.types.size+100) 122 v "loop.example/g00017/impl.isWhole").run Tryz.prog w=.ok (163,v) w:=by kernel_rfl
theorem X8 (v:Value) (w:World):(method (Tryz.prog.types.size+100) 123 v "loop.example/g00017/impl.isWhole").run Tryz.prog w=.ok (165,v) w:=by kernel_rfl
theorem X9 (v:Value) (w:World):(method (Tryz.prog.types.size+100) 124 v "loop.example/g00017/impl.isWhole").run Tryz.prog w=.ok (168,v) w:=by kernel_rfl
theorem Ya (v:Value) (w:World):(method (Tryz.prog.types.size+100) 125 v "loop.example/g00017/impl.isWhole").run Tryz.prog w=.ok (171,v) w:=by kernel_rfl
theorem Yb (v:Value) (w:World):(method (Tryz.prog.types.size+100) 126 v "loop.example/g00017/impl.isWhole").run Tryz.prog w=.ok (175,v) w:=by kernel_rfl
theorem U0 (v:Value) (w:World):(method (Tryz.prog.types.size+100) 127 v "loop.example/g00017/impl.isWhole").run Tryz.prog w=.ok (177,v) w:=by kernel_rfl
theorem QL (k:Int) (v:Value) (w:World):(method (Tryz.prog.types.size+100) (Es k) v "loop.example/g00017/impl.isWhole").run Tryz.prog w=.ok (Eu k,v) w:=by
 unfold Es Eu
 by_cases e1:k=1
 .subst e1
  exact XW v w
 by_cases e2:k=2
 .subst e2
  exact XX v w
 by_cases e3:k=3
 .subst e3
  exact XY v w
 by_cases e4:k=4
 .subst e4
  exact XZ v w
 by_cases e5:k=5
 .subst e5
  exact X7 v w
 by_cases e6:k=6
 .subst e6
  exact X8 v w
 by_cases e7:k=7
 .subst e7
  exact X9 v w
 by_cases e8:k=8
 .subst e8
  exact Ya v w
 by_cases e9:k=9
 .subst e9
  exact Yb v w
 by_cases e10:k=10
 .subst e10
  exact U0 v w
 rw [if_neg e1,if_neg e2,if_neg e3,if_neg e4,if_neg e5,if_neg e6,if_neg e7,if_neg e8,if_neg e9,if_neg e10,if_neg e1,if_neg e2,if_neg e3,if_neg e4,if_neg e5,if_neg e6,if_neg e7,if_neg e8,if_neg e9,if_neg e10];exact XV v w
open Go.RowKit Go.Shelf Go.Joins
attribute [local go_sem] Oper.semAt_some
def Qk (w:World) (LL:List (Nat×Nd)) (k:Nat) (O:Nat->Prop) (W:World):Prop:=
 dI w w.heap.size (.int .i64 0) O W∧∀e,e∈LL.take k->(di e.2.x).top
def Ql (w:World) (LL:List (Nat×Nd)) (cd:Code) (_:Nat) (O:Nat->Prop) (W:World):Prop:=
 cd=.ret∧dI w w.heap.size (.int .i64 2) O W∧¬∀e,e∈LL->(di e.2.x).top
theorem Qk.pV (w:World) (LL:List (Nat×Nd)):tT (Qk w LL):=λ_ _ _ _ _ h hK hn=>⟨h.1.pV hK hn,h.2⟩
theorem Ql.pV (w:World) (LL:List (Nat×Nd)) (cd:Code):tT (Ql w LL cd):=λ_ _ _ _ _ h hK hn=>⟨h.1,h.2.1.pV hK hn,h.2.2⟩
theorem enK (k:Int):∀args w,(callFunc (Eu k) args).run Tryz.prog w=.ok (.enter (Eu k) args) w:=by
 unfold Eu
 by_cases e1:k=1
 .rw [if_pos e1];exact enters_of Tryz.func155 (by kernel_rfl) rfl
 by_cases e2:k=2
 .rw [if_neg e1,if_pos e2];exact enters_of Tryz.func157 (by kernel_rfl) rfl
 by_cases e3:k=3
 .rw [if_neg e1,if_neg e2,if_pos e3];exact enters_of Tryz.func160 (by kernel_rfl) rfl
 by_cases e4:k=4
 .rw [if_neg e1,if_neg e2,if_neg e3,if_pos e4];exact enters_of Tryz.func162 (by kernel_rfl) rfl
 by_cases e5:k=5
 .rw [if_neg e1,if_neg e2,if_neg e3,if_neg e4,if_pos e5];exact enters_of Tryz.func163 (by kernel_rfl) rfl
 by_cases e6:k=6
 .rw [if_neg e1,if_neg e2,if_neg e3,if_neg e4,if_neg e5,if_pos e6];exact enters_of Tryz.func165 (by kernel_rfl) rfl
 by_cases e7:k=7
 .rw [if_neg e1,if_neg e2,if_neg e3,if_neg e4,if_neg e5,if_neg e6,if_pos e7];exact enters_of Tryz.func168 (by kernel_rfl) rfl
 by_cases e8:k=8
 .rw [if_neg e1,if_neg e2,if_neg e3,if_neg e4,if_neg e5,if_neg e6,if_neg e7,if_pos e8];exact enters_of Tryz.func171 (by kernel_rfl) rfl
 by_cases e9:k=9
 .rw [if_neg e1,if_neg e2,if_neg e3,if_neg e4,if_neg e5,if_neg e6,if_neg e7,if_neg e8,if_pos e9];exact enters_of Tryz.func175 (by kernel_rfl) rfl
 by_cases e10:k=10
 .rw [if_neg e1,if_neg e2,if_neg e3,if_neg e4,if_neg e5,if_neg e6,if_neg e7,if_neg e8,if_neg e9,if_pos e10];exact enters_of Tryz.func177 (by kernel_rfl) rfl
 rw [if_neg e1,if_neg e2,if_neg e3,if_neg e4,if_neg e5,if_neg e6,if_neg e7,if_neg e8,if_neg e9,if_neg e10];exact enters_of Tryz.func152 (by kernel_rfl) rfl
theorem LF (n:Nat) (hn:5<=n) (F:Fo) (W:World) (hf:Fit E F (E 3)) (hs:F.av W (λb=>b < W.heap.size)) (hsz:F.size<=16777216):
  CallsIn Fence.wide n Tryz.prog 22 #[.agg F.vals.toArray] W (WN (di F) W):=by
 have h1:1<=n:=by omega
 obtain ⟨d,hdd⟩:∃d:Nd,d=⟨W.heap.size,0,F⟩:=⟨_,rfl⟩
 obtain ⟨T,hT⟩:∃T,T=di F:=⟨_,rfl⟩
 rw [<- hT];obtain ⟨k,nm,mn,la,ln,lc,lk,na,nn,nc,nk,ka,kn,kc,kk,aa,an,ac,ak,hxe,-⟩:=ag hf;have hvs:F.vals=[.int .i64 k,.string nm,.bool mn,.slice la ln lc,.slice na nn nc,.slice ka kn kc,.slice aa an ac]:=by rw [hxe];rfl
 rw [hvs];obtain ⟨Wb,Qm⟩:∃V,W.alloc (.cells #[.int .i64 k,.string nm,.bool mn,.slice la ln lc,.slice na nn nc,.slice ka kn kc,.slice aa an ac] 35)=V:=⟨_,rfl⟩
 have bb:Below W.heap.size W Wb:=by rw [<- Qm];exact below_alloc1 _ _
 have zb:Wb.heap.size=W.heap.size+1:=by rw [<- Qm];simp
 have qb:Bx Wb W.heap.size F.vals:=by rw [<- Qm,hvs];exact Bx.new _ _ _
 have hd:d.Ok Wb (λb=>b < Wb.heap.size):=by
  rw [hdd];refine ⟨hf,?_,(hs.below bb (λb hb=>hb)).mono (λb hb=>?_),?_⟩
  .intro i v hv
   have:=qb.ae i v hv
   simpa using this
  .show b < Wb.heap.size
   omega
  .show W.heap.size < Wb.heap.size
   omega
 have hdp:d.ptr=.pointer (some ⟨W.heap.size,0,none⟩):=by rw [hdd];rfl
 have S9:d.x=F:=by rw [hdd]
 have hsd:d.x.size<=16777216:=by rw [S9];exact hsz
 have k0:=below_alloc1 Wb (.cells #[.int .i64 0] 2);have hd0:d.Ok (Wb.alloc (.cells #[.int .i64 0] 2)) (λb=>b < (Wb.alloc (.cells #[.int .i64 0] 2)).heap.size):=by
  have h:=hd.kept (Kept.of_below (S:=λb=>b < Wb.heap.size) k0 (λb _ hb=>hb)) (λb hb=>⟨hb,hb⟩);exact ⟨h.fit,h.ae,h.subs.mono (λb hb=>by rw [World.size_alloc];omega),by have:=h.at_;rw [World.size_alloc];omega⟩
 have CZ:=hide (KO (n - 1) (by omega) d _ hd0 hsd);rw [hdp] at CZ;have HWB:=hide Qm;have HWZ:=hide zb;clear Qm;refine callsIn_of_wp_marks Tryz.func22 rfl trivial ?_ rfl;simp only [Tryz.ntmps22,List.size_toArray,List.length_cons,List.length_nil,Nat.reduceAdd,Nat.reduceSub,Array.replicate_succ,Array.replicate_zero,List.push_toArray,List.append_toArray,List.nil_append,List.cons_append];have uG:=Ec hd;have WW:=λV=>zP d V
 rw [hdp] at WW;have NF:=hide WW;rw [S9,<- hT] at uG;obtain ⟨LL,yc⟩:∃LL,LL=eH [d] 1:=⟨_,rfl⟩
 rw [<- yc] at uG CZ;have Vs:T.len=1:=by rw [hT,hxe,eT,dB];rfl
 have hOK:rE T↔((1+jk LL LL.length<=20000∧∀e,e∈LL->e.1<=1000)∧∀e,e∈LL->(di e.2.x).top):=by
  have e1:jk LL LL.length=T.cw:=by unfold jk;rw [List.take_length];exact uG.sum
  rw [e1];constructor
  .rintro ⟨⟨g1,g2⟩,g3⟩
   have:=Cy T
   exact ⟨⟨by omega,uG.Jm (by omega)⟩,uG.good.2 g3⟩
  .rintro ⟨⟨g1,g2⟩,g3⟩
   have h3:=uG.good.1 g3
   have:=Cz T h3
   have:=uG.Jn (by omega) g2
   exact ⟨⟨by omega,by omega⟩,h3⟩
 have IC:=hide hOK;have HEZ:Hid (W.heap.size+1=Wb.heap.size):=zb.symm;have sZ:=hide yc;have Vq:=hide uG;have HDP:=hide hdp;have HDX:=hide S9;clear hOK zb yc uG hT hxe WW Vs hdd S9 hvs hdp hf hs hsz qb
 gi_wp2_with fail
 refine ⟨trivial,?_⟩;rw [HWB.out];refine CZ.out.mono ?_;rintro e w1 ⟨b1,q,rfl,hq⟩;have hr0:dI Wb Wb.heap.size (.int .i64 0) (λ_=>False) w1:=by
  have hb1:Below Wb.heap.size Wb w1:=k0.trans (b1.mono k0.size);refine ⟨(b1.cell (p:=⟨Wb.heap.size,0,none⟩) (by simp)).trans (by simp),(b1.frozen (p:=⟨Wb.heap.size,0,none⟩) (by simp)).trans (by simp),λz=>z,hb1,λ_ z=>z.elim⟩
 obtain ⟨r1,r2,-,r4,-⟩:=id hr0;rw [HEZ.out];clear CZ hd0 k0 b1
 cases q with
 | true=>
  have HN:Hid (¬rE T):=λh=>absurd (hq.2 (IC.out.1 h).1) (by simp)
  clear hq
  gi_wp2_with fail
  have hs1:=hr0.set (.int .i64 1) (Nat.le_refl _);exact ⟨.int .i64 1,by simp [results,Tryz.results22,go_sem,hs1.1],1,rfl,⟨λh=>absurd h (by decide),λh=>absurd h HN.out⟩,bb.trans (hs1.2.2.2.1.mono bb.size)⟩
 | false=>
  have HA:=hide (hq.1 rfl);clear hq;have hw1:=hr0.2.2.2.1;have zw1:Wb.heap.size+1<=w1.heap.size:=block_lt_of_cell r1
  gi_wp2_with (refine ⟨trivial,?_⟩;gi_at_call 46;refine (callsIn_wide.2 (NF.out _)).mono ?_;rintro e w' ⟨rfl,rfl⟩)
  obtain ⟨W0,hW0⟩:∃V,(w1.alloc (.cells #[.pointer (some ⟨W.heap.size,0,none⟩)] 55)).alloc (.cells #[.func (.func 64) #[] #[]] 114)=V:=⟨_,rfl⟩
  have z0:W0.heap.size=w1.heap.size+2:=by rw [<- hW0];simp
  have kb0:Below w1.heap.size w1 W0:=by rw [<- hW0];exact below_alloc2 _ _ _
  have hrb:W0.cell? ⟨w1.heap.size,0,none⟩=some d.ptr:=by
   rw [HDP.out,<- hW0];have k:=below_alloc1 (w1.alloc (.cells #[.pointer (some ⟨W.heap.size,0,none⟩)] 55)) (.cells #[.func (.func 64) #[] #[]] 114);exact (k.cell (p:=⟨w1.heap.size,0,none⟩) (by simp)).trans (by simp)
  have x8:W0.cell? ⟨w1.heap.size+1,0,none⟩=some (.func (.func 64) #[] #[]):=by
   rw [<- hW0];have e:w1.heap.size+1=(w1.alloc (.cells #[.pointer (some ⟨W.heap.size,0,none⟩)] 55)).heap.size:=by simp
   rw [e]
   simp
  have hB0:Below Wb.heap.size Wb W0:=hw1.trans (kb0.mono hw1.size);have Ii:d.Ok W0 (λb=>b < Wb.heap.size):=hd.kept (Kept.of_below (S:=λb=>b < Wb.heap.size) hB0 (λb _ hb=>hb)) (λb hb=>⟨hb,hb⟩);have hLn:LL.length<=16777216:=Nat.le_trans Vq.out.len (by have:=hsd;rw [HDX.out] at this;exact this);have hall:∀e∈LL,e.2.Ok Wb (λb=>b < Wb.heap.size)∧e.2.x.size<=16777216:=by
   rw [sZ.out];exact Jo [d] 1 (λn hn'=>by rw [List.mem_singleton] at hn';subst hn';exact ⟨hd,hsd⟩)
  have Rf:(eH [d] 1).length=LL.length:=by rw [sZ.out]
  have hseq:=zQ (n - 1) (by omega) w1.heap.size Wb.heap.size d W0 (w1.heap.size+1) x8 (by omega) hrb Ii hsd LL.length Rf hLn;rw [<- sZ.out] at hseq;have aa4:dI Wb Wb.heap.size (.int .i64 0) (λ_=>False) W0:=hr0.next kb0
  rw [hW0];clear hW0;have fin:∀(D:Nat) (A:Act) (c:Int) (V:World),(A={tmps:=A.tmps,defers:=[{target:=.collected D,args:=#[]}]}∧A.tmps[2]? =some (.pointer (some ⟨Wb.heap.size,0,none⟩)))->W0.heap.size<=D->V.heap[D]? =some (.deferred (some []))->
    V.cell? ⟨Wb.heap.size,0,none⟩=some (.int .i64 c)->Below Wb.heap.size Wb V->(c=0↔rE T)->bodyPostM Fence.wide n Tryz.prog Tryz.f22 (WN T W) .ret A V:=by
   rintro D ⟨tm,df⟩ c V ⟨hA,h4⟩ hD hK hq bl hqq
   cases hA
   refine ⟨by simp,.inl ⟨_,_,rfl,run_takeDeferred hK,?_⟩⟩;have q':=((Kept.putObj (λc=>c≠D) V D (.deferred none) (by simp)).cell (p:=⟨Wb.heap.size,0,none⟩) (block_lt_of_cell hq) (by show Wb.heap.size≠D;omega)).trans hq;have Ot:=bl.trans (belowK_b (w:=Wb) (Nat.le_refl _) V D _ (.deferred none) (by omega) hK rfl rfl);exact ⟨.int .i64 c,by simp [results,Tryz.results22,go_sem,h4,q'],c,rfl,hqq,bb.trans (Ot.mono bb.size)⟩
  refine xI rfl h1 (gf:=99) (lb:=#[.pointer (some ⟨w1.heap.size,0,none⟩),.pointer (some ⟨w1.heap.size+1,0,none⟩)]) rfl trivial (enters_of Tryz.func99 (by kernel_rfl) rfl)
   hseq (Below.refl _ _) (λb hb=>by rcases hb with hb | hb <;> omega) (λ_=>rfl)
   (Qk Wb LL) (Ql Wb LL) (Qk.pV _ _) (Ql.pV _ _) ⟨aa4,λe he=>absurd he (by simp)⟩
   (λi _ a' _=>∃(dd:Nat) (x:Nd),LL[i]? =some (dd,x)∧a'={tmps:=#[.agg #[.int .i64 k,.string nm,.bool mn,.slice la ln lc,.slice na nn nc,.slice ka kn kc,.slice aa an ac],.pointer (some ⟨W.heap.size,0,none⟩),.pointer (some ⟨Wb.heap.size,0,none⟩),undef,.pointer (some ⟨x.b,x.o,none⟩),.bool false,.func (.func 99) #[] #[.pointer (some ⟨w1.heap.size,0,none⟩),.pointer (some ⟨w1.heap.size+1,0,none⟩)],.int .i64 (dd:Int),.pointer (some ⟨x.b,x.o,none⟩),undef,undef,undef,undef],defers:=[]})
   ?assign ?body ?done ?stop
  case assign=>
   intro l i O W' K hi Bn hI hK;obtain ⟨⟨dd,x⟩,hx⟩:∃e,LL[i]? =some e:=⟨_,List.getElem?_eq_getElem hi⟩
   have hv:qw LL i=#[.int .i64 (dd:Int),.pointer (some ⟨x.b,x.o,none⟩)]:=by
    unfold qw;rw [List.getD_eq_getElem?_getD,hx];rfl
   have yf:=hide (hK _ _ (Kept.refl _ W') hI ⟨dd,x,hx,rfl⟩);clear hK hI hx fin hseq;rw [hv];clear hv
   gi_wp2
   exact yf.out
  case body=>
   rintro l i O a' W1 W' hi ⟨dd,x,hx,rfl⟩ hkp Bn ⟨hr,ht2⟩ hO;have hxm:(dd,x)∈LL:=List.mem_of_getElem? hx;obtain ⟨vE,xJ⟩:=hall _ hxm;obtain ⟨r1,r2,r3,r4,r5⟩:=id hr;have Be:x.Ok W' (λb=>b < W'.heap.size):=by
    have h:=Nd.Ok.kept (d:=x) vE (Kept.of_below (S:=λb=>b < Wb.heap.size) r4 (λb _ hb=>hb)) (λb hb=>⟨hb,hb⟩);exact ⟨h.fit,h.ae,h.subs.mono (λb hb=>Nat.lt_of_lt_of_le hb r4.size),Nat.lt_of_lt_of_le h.at_ r4.size⟩
   obtain ⟨hh,ks,al,he,hck⟩:∃hh ks al,di x.x=.nd hh ks al .nil∧W'.cell? ⟨x.b,x.o,none⟩=some (.int .i64 hh.k):=by
    obtain ⟨k,nm,mn,la,ln,lc,lk,na,nn,nc,nk,ka,kn,kc,kk,aa,an,ac,ak,e,-⟩:=ag Be.fit;have hce:=Be.ae;rw [e] at hce;simp only [Fo.vals] at hce;exact ⟨_,_,_,by rw [e,eT,dB],by simpa using hce 0 _ rfl⟩
   obtain ⟨q,hq⟩:∃q:Bool,q=true↔fA hh ks.len al:=by
    by_cases h:fA hh ks.len al
    .exact ⟨true,by simp only [true_iff];exact h⟩
    .exact ⟨false,by simp only [Bool.false_eq_true,false_iff];exact h⟩
   have kT:=below_alloc1 W' (.cells #[x.ptr] 116);have Qn:x.Ok (W'.alloc (.cells #[x.ptr] 116)) (λb=>b < (W'.alloc (.cells #[x.ptr] 116)).heap.size):=by
    have h:=Nd.Ok.kept (d:=x) Be (Kept.of_below (S:=λb=>b < W'.heap.size) kT (λb _ hb=>hb)) (λb hb=>⟨hb,hb⟩);exact ⟨h.fit,h.ae,h.subs.mono (λb hb=>Nat.lt_of_lt_of_le hb kT.size),Nat.lt_of_lt_of_le h.at_ kT.size⟩
   have WX:=Jw x W' hh.k hck Be.at_;have WY:=nT x _ Qn xJ hh ks al he q hq;have hME:(method 350 (Es hh.k) (.agg #[x.ptr]) "loop.example/g00017/impl.isWhole").run Tryz.prog (W'.alloc (.cells #[x.ptr] 116))=.ok (Eu hh.k,.agg #[x.ptr]) (W'.alloc (.cells #[x.ptr] 116)):=QL hh.k (.agg #[x.ptr]) (W'.alloc (.cells #[x.ptr] 116));have hEN:=enK hh.k;have WZ:∀V,Below (W'.alloc (.cells #[x.ptr] 116)).heap.size (W'.alloc (.cells #[x.ptr] 116)) V->dI Wb Wb.heap.size (.int .i64 0) O V∧Kept (λb=>O b∨b < Wb.heap.size∨b=w1.heap.size+1) W' V:=λV b=>⟨(hr.next kT).next b,(Kept.of_below (S:=λb=>O b∨b < Wb.heap.size∨b=w1.heap.size+1) kT (λb hb _=>hb)).trans (Kept.of_below b (λb hb _=>hb))⟩
   simp only [Nd.ptr] at WX WY hME WZ;have Rx:=hide WX;have HWC:=hide WY;have Pv:=hide WZ;have HHE:=hide he;have HHQ:=hide hq;have HX:=hide hx;clear WX WY WZ he hq hx vE Be Qn kT hck fin hseq
   gi_wp2_with fail
   refine ⟨trivial,λ_=>by omega,?_⟩;refine (CallsIn.inRound l (callsIn_wide.2 Rx.out)).mono ?_;rintro e w' ⟨rfl,rfl⟩
   gi_wp2_with fail
   refine ⟨trivial,λ_=>by omega,?_⟩;refine (CallsIn.inRound l (callsIn_wide.2 HWC.out)).mono ?_;rintro e w2 ⟨rfl,b2⟩;obtain ⟨hr2,oF⟩:=Pv.out w2 b2;have yf:=hide oF;obtain ⟨s1,s2,s3,s4,s5⟩:=id hr2;clear b2 HWC Rx hME hEN oF r1 r2 r4 r5;have HNS:Hid (¬(O Wb.heap.size∨Wb.heap.size < Wb.heap.size∨Wb.heap.size=w1.heap.size+1)):=λh=>by
    rcases h with h | h | h
    .exact s3 h
    .omega
    .omega
   cases q with
   | true=>
    have nJ:Hid (Qk Wb LL (i+1) O w2):=by
     refine ⟨hr2,λe he=>?_⟩;rw [List.take_add_one,HX.out,List.mem_append] at he;rcases he with he | he
     .exact ht2 e he
     .simp only [Option.toList_some,List.mem_singleton] at he
      subst he;show (di x.x).top;rw [HHE.out];exact HHQ.out.1 rfl
    gi_wp2_with fail
    exact ⟨yf.out,nJ.out⟩
   | false=>
    have nJ:Hid (Ql Wb LL .ret i O (w2.setCell ⟨Wb.heap.size,0,none⟩ (.int .i64 2))):=by
     refine ⟨rfl,hr2.set (.int .i64 2) (Nat.le_refl _),λh=>?_⟩;have h1:(di x.x).top:=h _ hxm;rw [HHE.out] at h1;exact absurd (HHQ.out.2 h1) (by simp)
    gi_wp2_with fail
    exact ⟨yf.out.trans (Kept.setCell _ _ _ _ HNS.out),nJ.out⟩
  case done=>
   rintro D O W' hD Vh hO ⟨i1,i2⟩ hK;rw [List.take_length] at i2;obtain ⟨r1,r2,r3,r4,r5⟩:=id i1;have hDl:D < W'.heap.size:=(Array.getElem?_eq_some_iff.1 hK).1;have HF:=hide (λA hA=>fin D A 0 (W'.setCell ⟨Wb.heap.size,0,none⟩ (.int .i64 0)) hA hD (((Kept.setCell (λc=>c≠Wb.heap.size) W' ⟨Wb.heap.size,0,none⟩ (.int .i64 0) (by simp)).block D hDl (by show D≠_;omega)).trans hK) (i1.set (.int .i64 0) (Nat.le_refl _)).1 (i1.set (.int .i64 0) (Nat.le_refl _)).2.2.2.1 ⟨λ_=>IC.out.2 ⟨HA.out,i2⟩,λ_=>rfl⟩);clear fin hseq
   gi_wp2_with fail
   exact HF.out _ ⟨rfl,rfl⟩
  case stop=>
   rintro D c i O W' hD Vh hO _ ⟨rfl,i2,i3⟩ hK;have HF:=hide (λA hA=>fin D A 2 W' hA hD hK i2.1 i2.2.2.2.1 ⟨λh=>absurd h (by decide),λh=>absurd (IC.out.1 h).2 i3⟩);clear fin hseq
   gi_wp2_with fail
   exact HF.out _ ⟨rfl,rfl⟩
end Go.Proofs.YthfnobboalhihaaGreat.C
