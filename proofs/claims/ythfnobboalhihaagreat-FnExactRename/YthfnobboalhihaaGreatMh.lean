import Derived.Test.YthfnobboalhihaaGreatRu
import Derived.Test.YthfnobboalhihaaGreatDp
import Derived.Deep.RegionHeldLaw
set_option maxHeartbeats 40000000
set_option maxRecDepth 100000
namespace Go.Proofs.YthfnobboalhihaaGreat
open Go.RowKit Go.Joins
theorem zz28 {P:Prop} (h:P:=by
 exact Dr.out _ (Kept.set (Kept.set (Kept.set (Kept.set (Kept.set (Kept.set (Kept.set (Kept.refl _ _) (λx=>x rfl)) (λx=>x rfl)) (λx=>x rfl)) (λx=>x rfl)) (λx=>x rfl)) (λx=>x rfl)) (λx=>x rfl))):P:=h
theorem zz68 {P:Prop} (h:P:=by
 clear bM oz HB1 xq hy;go_wp2_with fail;refine bodyPost_ret (qQ Tryz.f7 rfl (jd _ _ _ _ _ _ _ WE.out) rfl) rfl ?_;exact HS.out _ (Kept.set (Kept.set (Kept.set (Kept.set (Kept.set (Kept.set (Kept.set (Kept.refl _ _) (λx=>x rfl)) (λx=>x rfl)) (λx=>x rfl)) (λx=>x rfl)) (λx=>x rfl)) (λx=>x rfl)) (λx=>x rfl))):P:=h
theorem zz172 {P:Prop} (h:P:=by
 cases hh:t.toList with
 | nil=>exact absurd (ByteArray.ext (Array.ext' (by rw [<- ByteArray.toList_eq,hh]))) hy.2
 | cons _ _=>rfl):P:=h
theorem zz224 {P:Prop} (h:P:=by
 unfold wW
 split
 .rename_i h;injection h with h;exact ⟨_,rfl⟩
 .exact ⟨nm,rfl⟩):P:=h
theorem Pg:∀k,(E k).length<=9
 | 0=>by decide
 | 1=>by decide
 | 2=>by decide
 | 3=>by decide
 | _+4=>Nat.zero_le _
theorem qQ {X:World} {b:Nat} {v0 v1 v2 v3 v4 v5 v6:Value} {n:Nat} (fn:Func) (hfn:fn.results=#[.cell n 35]) (hc:X.heap[b]? =some (.cells #[v0,v1,v2,v3,v4,v5,v6] 35)) {tmps:Array Value} (ht:tmps.getD n undef=.pointer (some ⟨b,0,none⟩)):
  (results fn tmps).run Tryz.prog X=.ok (.agg #[v0,v1,v2,v3,v4,v5,v6]) X:=by
 obtain ⟨d,hd,hm⟩:=Option.map_eq_some_iff.1 Nv;exact results_cell_row (P:=Tryz.prog) (fn:=fn) (p:=n) (ty:=35) hfn tmps X b 35 #[v0,v1,v2,v3,v4,v5,v6] (0,0) d ht hc hd (by revert hm;cases d <;> simp) Tn
theorem Mine.own {V:World} {x:Fo} {b o lo:Nat} (h:Mine V x b o) (hl:∀c∈x.ah,lo<=c):Own lo V x:=
 ⟨h.subs.mono (λc hc=>⟨hl c hc,h.lt.2 c hc⟩),(List.nodup_cons.1 h.nd).2,λc hc j=>h.lv c (.inr hc) j⟩
theorem Own.mine {V:World} {x:Fo} {b lo:Nat} (h:Own lo V x) (hb:Bx V b x.vals) (hn:b∉x.ah):Mine V x b 0:=
 ⟨λi v hv=>by rw [Nat.zero_add];exact hb.ae i v hv,h.subs.own,List.nodup_cons.2 ⟨hn,h.nodup⟩,⟨hb.lt,λc hc=>(h.subs.bu c hc).2⟩,λc hc j=>by
  rcases hc with e | e
  .rw [e];exact hb.live j
  .exact h.live c e j⟩
theorem nC (f t:ByteArray) {k:Int} {nm:ByteArray} {mn:Bool} {la na ka aa:Option Addr} {ln lc nn nc kn kc an ac:Nat} {lk nk kk ak:Fo}:∃kD:ByteArray,(dH f t true true (.v (.int .i64 k) (.v (.string nm) (.v (.bool mn) (.s la ln lc lk (.s na nn nc nk (.s ka kn kc kk (.s aa an ac ak .nil)))))))).vals=[.int .i64 k,.string kD,.bool mn,.slice la ln lc,.slice na nn nc,.slice ka kn kc,.slice aa an ac]:=by
 rw [iN,dY];obtain ⟨u,hu⟩:∃u:ByteArray,wW f t (.int .i64 k) (.string nm)=.string u:=by
  exact zz224
 exact ⟨u,by simp only [if_true,hu,Fo.vals]⟩
theorem Lx {F:Fo} {lo:Nat} (W:World) (f t:ByteArray) (htz:t.size<=281474976710656) (hf:Fit E F (E 3)) (hw:F.wt<=1048576) (ho:Own lo W F):
  Calls Tryz.prog 7 #[.agg F.vals.toArray,.string f,.string t] W λe W'=>∃g:Fo,e=.returned (.agg g.vals.toArray)∧g.aG (nH f t F)∧Own W.heap.size W' g∧Below W.heap.size W W':=by
 have hsz:=(Fit.bounds Pg F (E 3) hf).2.2;have hfl:F.len=7:=Fit.len hf;obtain ⟨s,hs⟩:∃s,W.heap.size=s:=⟨_,rfl⟩
 obtain ⟨k,nm,mn,la,ln,lc,lk,na,nn,nc,nk,ka,kn,kc,kk,aa,an,ac,ak,hxe,-⟩:=ag hf;have hv:F.vals=[.int .i64 k,.string nm,.bool mn,.slice la ln lc,.slice na nn nc,.slice ka kn kc,.slice aa an ac]:=by rw [hxe];rfl
 obtain ⟨A1,hA1⟩:∃A,W.alloc (.cells #[.int .i64 k,.string nm,.bool mn,.slice la ln lc,.slice na nn nc,.slice ka kn kc,.slice aa an ac] 35)=A:=⟨_,rfl⟩
 obtain ⟨A2,hA2⟩:∃A,A1.alloc (.cells #[.int .i64 0,.string {data:=#[]},.bool false,.slice none 0 0,.slice none 0 0,.slice none 0 0,.slice none 0 0] 35)=A:=⟨_,rfl⟩
 have z1:A1.heap.size=s+1:=by rw [<- hA1,<- hs];simp
 have z2:A2.heap.size=s+2:=by rw [<- hA2,World.size_alloc,z1]
 have x1:Bx A1 s F.vals:=by rw [hv,<- hA1,<- hs];exact Bx.new _ _ _
 have y2:Bx A2 (s+1) [.int .i64 0,.string {data:=#[]},.bool false,.slice none 0 0,.slice none 0 0,.slice none 0 0,.slice none 0 0]:=by rw [<- hA2,<- z1];exact Bx.new _ _ _
 have qj:A2.heap[s+1]? =some (.cells #[.int .i64 0,.string {data:=#[]},.bool false,.slice none 0 0,.slice none 0 0,.slice none 0 0,.slice none 0 0] 35):=by rw [<- hA2,<- z1];exact bH _ _
 have k12:Kept (λ_=>True) A1 A2:=by rw [<- hA2];exact Kept.alloc _ _ _
 have x2:Bx A2 s F.vals:=x1.kept k12 trivial;have b2:Below W.heap.size W A2:=by
  have h1:Below W.heap.size W A1:=by rw [<- hA1];exact below_alloc1 _ _
  exact Below.kept h1 k12 (λ_ _=>trivial) (Nat.le_refl _)
 have ho2:Own lo A2 F:=ho.below b2;have fQ:=hide (callsIn_wide.1 (C.LF 5 (Nat.le_refl _) F A2 hf (ho2.subs.mono (λ_ x=>x.2)) (by omega)));have iJ:Hid (∀w1,Below A2.heap.size A2 w1->Calls Tryz.prog 23 #[.agg #[.int .i64 k,.string nm,.bool mn,.slice la ln lc,.slice na nn nc,.slice ka kn kc,.slice aa an ac]] w1 λe w2=>∃(la' na' dC dA:Option Addr) (fu bI eY eZ:Nat),e=.returned (.agg #[.int .i64 k,.string nm,.bool mn,.slice la' ln fu,.slice na' nn bI,.slice dC kn eY,.slice dA an eZ])∧Hid (∃g:Fo,g.vals=[.int .i64 k,.string nm,.bool mn,.slice la' ln fu,.slice na' nn bI,.slice dC kn eY,.slice dA an eZ]∧(∃kD:ByteArray,(dH f t true true g).vals=[.int .i64 k,.string kD,.bool mn,.slice la' ln fu,.slice na' nn bI,.slice dC kn eY,.slice dA an eZ])∧g.aG F∧Own w1.heap.size w2 g∧Below w1.heap.size w1 w2)):=λw1 b1=>by
  have h:=La w1 hf hw (ho2.below b1);rw [hv] at h;refine h.mono ?_;rintro e w2 ⟨g,rfl,g1,g2,g3⟩;have g1':=g1;rw [hxe] at g1;obtain ⟨q1,rfl,h1⟩:=Fo.aP g1;obtain ⟨q2,rfl,h2⟩:=Fo.aP h1;obtain ⟨q3,rfl,h3⟩:=Fo.aP h2;obtain ⟨la',fu,lk',q4,rfl,s3,h4⟩:=Fo.aI h3;obtain ⟨na',bI,Bh,q5,rfl,s4,h5⟩:=Fo.aI h4;obtain ⟨dC,eY,xU,q6,rfl,s5,h6⟩:=Fo.aI h5;obtain ⟨dA,eZ,bG,q7,rfl,s6,h7⟩:=Fo.aI h6;obtain rfl:=Fo.cB h7;exact ⟨la',na',dC,dA,fu,bI,eY,eZ,rfl,_,rfl,nC f t,g1',g2,g3⟩
 have HLK:Hid (∀(V:World) (g:Fo) (z w1s:Nat),g.aG F->Own w1s V g->Bx V z g.vals->z∉g.ah->C.rE (C.di F)->Calls Tryz.prog 25 #[.agg #[.string f,.string t],.pointer (some ⟨z,0,none⟩)] V λe W'=>e=.returned (.tuple #[])∧Hid (Mine W' (dH f t true true g) z 0∧aZ g.ah z 0 7 V W')):=λV g z w1s g1 g2 g3 g4 hok=>by
  have hg:(C.di g).good:=by rw [((C.DC F.size).1 F g 1 (Nat.le_refl _) (C.qd hf)).2 g1];exact hok.2
  exact JL f t g.size g V z 0 (g1.fit hf) ⟨Nat.le_refl _,by rw [g1.wt];exact hw,hg⟩ (g2.mine g3 g4)
 have pK:Hid (∀(V V':World) (g:Fo) (u:Value) (la' na' dC dA:Option Addr) (fu bI eY eZ:Nat),g.vals=[.int .i64 k,u,.bool mn,.slice la' ln fu,.slice na' nn bI,.slice dC kn eY,.slice dA an eZ]->g.aG (nH f t F)->Own A2.heap.size V g->Below A2.heap.size A2 V->Kept (λc=>c≠s+1) V V'->∃g:Fo,Ending.returned (.agg #[.int .i64 k,u,.bool mn,.slice la' ln fu,.slice na' nn bI,.slice dC kn eY,.slice dA an eZ])=.returned (.agg g.vals.toArray)∧g.aG (nH f t F)∧Own W.heap.size V' g∧Below W.heap.size W V'):=λV V' g u la' na' dC dA fu bI eY eZ g1 g2 g3 g4 kV=>by
  refine ⟨g,by rw [g1],g2,(g3.kept kV (λc hc _=>by show c≠_;omega)).mono (by omega),?_⟩;exact Below.kept (b2.trans (g4.mono (by omega))) kV (λc hc=>by show c≠_;omega) (by omega)
 have HS:=hide hs;have HA1:=hide hA1;have HA2:=hide hA2;have HZ2:=hide z2;have HH2:=hide qj;have Ld:=hide y2;have HF:=hide hf;have HTZ:=hide htz;have c0:=x2.ae 0 _ (by rw [hv];rfl);have c1:=x2.ae 1 _ (by rw [hv];rfl);have c2:=x2.ae 2 _ (by rw [hv];rfl);have c3:=x2.ae 3 _ (by rw [hv];rfl);have c4:=x2.ae 4 _ (by rw [hv];rfl);have c5:=x2.ae 5 _ (by rw [hv];rfl);have c6:=x2.ae 6 _ (by rw [hv];rfl);have xq:=hide x2;rw [hv] at fQ xq ⊢;clear hxe hv hs hA1 hA2 z1 z2 x1 y2 qj k12 x2 b2 ho2 hf hw ho hsz hfl htz;go_enter Tryz.func7,Tryz.ntmps7
 go_upto_region 1 with fail
 rw [HS.out,HA1.out,HA2.out]
 go_upto_region 2 with (go_at_call 22;refine fQ.out.mono ?_;rintro e w1 ⟨cd,rfl,hcd,b1⟩)
 have HB1:=hide b1;have SK:=hide hcd;have x3:=xq.out.below b1;have mK:=hide (iJ.out w1 b1);have d0:=x3.ae 0 _ rfl;have d1:=x3.ae 1 _ rfl;have d2:=x3.ae 2 _ rfl;have d3:=x3.ae 3 _ rfl;have d4:=x3.ae 4 _ rfl;have d5:=x3.ae 5 _ rfl;have d6:=x3.ae 6 _ rfl;clear c0 c1 c2 c3 c4 c5 c6 hcd b1 x3 fQ iJ
 go_upto_region 3 with (go_at_call 23;refine mK.out.mono ?_;rintro e w2 ⟨la',na',dC,dA,fu,bI,eY,eZ,rfl,h2⟩)
 obtain ⟨z,hz⟩:∃z,w2.heap.size=z:=⟨_,rfl⟩
 obtain ⟨V3,pI⟩:∃V,w2.alloc (.cells #[.int .i64 k,.string nm,.bool mn,.slice la' ln fu,.slice na' nn bI,.slice dC kn eY,.slice dA an eZ] 35)=V:=⟨_,rfl⟩
 rw [hz,pI];obtain ⟨g,gv,⟨u,gu⟩,g1,g2,g3⟩:=h2.out;have hz2:=HZ2.out;have hb1:=HB1.out.size;have hb3:=g3.size;have LG:Below A2.heap.size A2 V3:=by rw [<- pI];exact (HB1.out.trans (g3.mono (by omega))).trans ((below_alloc1 _ _).mono (by omega))
 have k23:Kept (λ_=>True) w2 V3:=by rw [<- pI];exact Kept.alloc _ _ _
 have bz:Bx V3 z g.vals:=by rw [gv,<- pI,<- hz];exact Bx.new _ _ _
 have o3:Own w1.heap.size V3 g:=g2.kept k23 (λ_ _ _=>trivial);have hzi:z∉g.ah:=λhc=>by have:=(g2.subs.bu z hc).2;omega
 have y3:V3.heap[s+1]? =some (.cells #[.int .i64 0,.string {data:=#[]},.bool false,.slice none 0 0,.slice none 0 0,.slice none 0 0,.slice none 0 0] 35):=(LG.block (s+1) (by omega)).trans HH2.out;have WA:=Ld.out.JI LG (by omega);have WC:Hid (¬(C.rE (C.di F)∧¬t=⟨#[]⟩)->∀V,Kept (λc=>c≠s+1) V3 V->∃g:Fo,Ending.returned (.agg #[.int .i64 k,.string nm,.bool mn,.slice la' ln fu,.slice na' nn bI,.slice dC kn eY,.slice dA an eZ])=.returned (.agg g.vals.toArray)∧g.aG (nH f t F)∧Own W.heap.size V g∧Below W.heap.size W V):=λhn V kV=>
  pK.out V3 V g _ la' na' dC dA fu bI eY eZ gv (by unfold nH;rw [if_neg hn];exact g1) (o3.mono (by omega)) LG kV
 have Pv:Hid (C.rE (C.di F)∧¬t=⟨#[]⟩->∀V4,Below V3.heap.size V3 V4->Calls Tryz.prog 25 #[.agg #[.string f,.string t],.pointer (some ⟨z,0,none⟩)] V4 λe W'=>e=.returned (.tuple #[])∧Hid (W'.heap[s+1]? =some (.cells #[.int .i64 0,.string {data:=#[]},.bool false,.slice none 0 0,.slice none 0 0,.slice none 0 0,.slice none 0 0] 35)∧Bx W' (s+1) [.int .i64 0,.string {data:=#[]},.bool false,.slice none 0 0,.slice none 0 0,.slice none 0 0,.slice none 0 0]∧Bx W' z [.int .i64 k,.string u,.bool mn,.slice la' ln fu,.slice na' nn bI,.slice dC kn eY,.slice dA an eZ]∧∀V,Kept (λc=>c≠s+1) W' V->∃g:Fo,Ending.returned (.agg #[.int .i64 k,.string u,.bool mn,.slice la' ln fu,.slice na' nn bI,.slice dC kn eY,.slice dA an eZ])=.returned (.agg g.vals.toArray)∧g.aG (nH f t F)∧Own W.heap.size V g∧Below W.heap.size W V)):=λhy V4 b4=>by
  have o4:=o3.below b4;have abu:=b4.size;refine (HLK.out V4 g z w1.heap.size g1 o4 (bz.below b4) hzi hy.1).mono ?_;rintro e W' ⟨rfl,hmc⟩;obtain ⟨hm,hc⟩:=hmc.out;have TH:=(ik f t true true (g1.fit HF.out)).1;have hs1:s+1≠z∧s+1∉g.ah:=⟨by omega,λhc=>by have:=(o3.subs.bu _ hc).1;omega⟩
  have y4:V4.heap[s+1]? =some (.cells #[.int .i64 0,.string {data:=#[]},.bool false,.slice none 0 0,.slice none 0 0,.slice none 0 0,.slice none 0 0] 35):=(b4.block (s+1) (by have:=bz.lt;omega)).trans y3;have hlt:∀c,c∈g.ah->w1.heap.size<=c:=λc hc=>(o3.subs.bu c hc).1
  refine ⟨rfl,(hc.kp.block (s+1) (by have:=bz.lt;omega) hs1).trans y4,((WA.below b4).kept hc.kp hs1),⟨hm.lt.1,λi v hv=>?_,λj=>hm.lv z (.inl rfl) j⟩,λV kV=>?_⟩
  .have:=hm.ae i v (by rw [gu];exact hv)
   rwa [Nat.zero_add] at this
  .refine pK.out W' V (dH f t true true g) (.string u) la' na' dC dA fu bI eY eZ gu (by unfold nH;rw [if_pos hy];exact yM f t HF.out g1) (hm.own (λc hc=>by rw [TH] at hc;have:=hlt c hc;omega)) ?_ kV
   exact Below.kept (LG.trans (b4.mono LG.size)) hc.kp (λc hc=>⟨by omega,λhx=>by have:=hlt c hx;omega⟩) (Nat.le_refl _)
 have bM:Hid (Bx V3 z [.int .i64 k,.string nm,.bool mn,.slice la' ln fu,.slice na' nn bI,.slice dC kn eY,.slice dA an eZ]):=by rw [<- gv];exact bz
 have WE:=hide y3;have oz:=hide WA;clear pK HLK mK h2 gv gu g1 g2 g3 hb1 hb3 LG k23 bz o3 hzi y3 WA pI hz d0 d1 d2 d3 d4 d5 d6
 by_cases hy:C.rE (C.di F)∧¬t=⟨#[]⟩
 .obtain rfl:cd=0:=SK.out.2 hy.1
  have yJ:(t.toList==[])=false:=by
   exact zz172
  have HR:=hide (Pv.out hy);have pz:=hide (E8 t V3 HTZ.out);clear WC Pv hy
  go_upto_region 5 with (first | (go_at_call 24;refine pz.out.mono ?_;rintro e V4 ⟨rfl,b4⟩;have HR4:=hide (HR.out V4 b4)) | (go_at_call 25;refine HR4.out.mono ?_;rintro e V5 ⟨rfl,jg⟩))
  obtain ⟨vL,uM,FU,Ur⟩:=jg.out;have Dq:=hide vL;have Dr:=hide Ur;have d0:=FU.ae 0 _ rfl;have d1:=FU.ae 1 _ rfl;have d2:=FU.ae 2 _ rfl;have d3:=FU.ae 3 _ rfl;have d4:=FU.ae 4 _ rfl;have d5:=FU.ae 5 _ rfl;have d6:=FU.ae 6 _ rfl;have e0:=uM.ae 0 _ rfl;have e1:=uM.ae 1 _ rfl;have e2:=uM.ae 2 _ rfl;have e3:=uM.ae 3 _ rfl;have e4:=uM.ae 4 _ rfl;have e5:=uM.ae 5 _ rfl;have e6:=uM.ae 6 _ rfl;have f0:=uM.live 0;have f1:=uM.live 1;have f2:=uM.live 2;have f3:=uM.live 3;have f4:=uM.live 4;have f5:=uM.live 5;have f6:=uM.live 6;clear vL uM FU Ur jg HR4 HR pz bM WE oz HB1 SK xq;go_wp2_with fail;refine bodyPost_ret (qQ Tryz.f7 rfl (jd _ _ _ _ _ _ _ Dq.out) rfl) rfl ?_;exact zz28
 .have HS:=hide (WC.out hy)
  clear WC Pv;have d0:=bM.out.ae 0 _ rfl;have d1:=bM.out.ae 1 _ rfl;have d2:=bM.out.ae 2 _ rfl;have d3:=bM.out.ae 3 _ rfl;have d4:=bM.out.ae 4 _ rfl;have d5:=bM.out.ae 5 _ rfl;have d6:=bM.out.ae 6 _ rfl;have e0:=oz.out.ae 0 _ rfl;have e1:=oz.out.ae 1 _ rfl;have e2:=oz.out.ae 2 _ rfl;have e3:=oz.out.ae 3 _ rfl;have e4:=oz.out.ae 4 _ rfl;have e5:=oz.out.ae 5 _ rfl;have e6:=oz.out.ae 6 _ rfl;have f0:=oz.out.live 0;have f1:=oz.out.live 1;have f2:=oz.out.live 2;have f3:=oz.out.live 3;have f4:=oz.out.live 4;have f5:=oz.out.live 5;have f6:=oz.out.live 6;have abv:=SK
  cases hc:cd==0 with
  | false=>
   have h1:(cd==0)=false:=hc;exact zz68
  | true=>
   have ht:t=⟨#[]⟩:=Classical.byContradiction λh=>hy ⟨SK.out.1 (beq_iff_eq.1 hc),h⟩
   have h1:(t.toList==[])=true:=by rw [ht,ByteArray.toList_eq];rfl
   exact zz68
theorem Mr {V:World} {a:Option Addr} {n c:Nat} {L:List ByteArray} (hn:n=L.length) (hb:n<=10000000) (hv:xP V a L) (t:ByteArray):
  Calls Tryz.prog 62 #[.slice a n c,.string t] V λe V'=>e=.returned (.bool (fV t L))∧V'=V:=by
 have ku:=hide hn;have HV:=hide hv;clear hn hv;go_enter Tryz.func62,Tryz.ntmps62;go_wp2_with fail
 go_loopw [5] (λs5 wr=>∃i:Nat,s5=.int .i64 (i:Int)∧i<=n∧fV t (L.take i)=false∧wr=V) (λs5 _=>n - (intOf s5).toNat)
 case atStart=>exact ⟨0,rfl,Nat.zero_le _,by simp [fV],rfl⟩
 case round=>
  obtain ⟨i,rfl,hin,hni,rfl⟩:=hrel;have VU:=hide hni
  by_cases hi:i < n
  .have hii:(i:Int) < (n:Int):=by omega
   obtain ⟨x,hx⟩:∃x,L[i]? =some x:=⟨_,List.getElem?_eq_getElem (by rw [<- ku.out];exact hi)⟩
   obtain ⟨b,o,rfl,hcs⟩:=HV.out (by rw [<- ku.out];omega);have hc:=hcs i x hx;have HX:=hide hx;clear hni hx hcs
   cases IM:(x.toList==t.toList) with
   | true=>
    go_wp2_with fail;go_ret
    have:fV t L=true:=List.any_eq_true.2 ⟨x,List.mem_of_getElem? HX.out,by rw [beq_iff_eq] at IM ⊢;exact IM.symm⟩
    rw [this];exact ⟨rfl,rfl⟩
   | false=>
    have Z6:(t.toList==x.toList)=false:=by rw [beq_eq_false_iff_ne] at IM ⊢;exact λe=>IM e.symm
    go_wp2_with fail;go_roundw
    case rel=>
     refine ⟨i+1,by go_num,by omega,?_,trivial⟩;have h1:=VU.out;unfold fV at h1 ⊢;rw [List.take_add_one,HX.out,List.any_append,h1];simp [Z6]
    case measure=>simp [intOf];omega
  .have hii:¬(i:Int) < (n:Int):=by omega
   have hnm:fV t L=false:=by rw [List.take_of_length_le (by rw [<- ku.out];omega)] at hni;exact hni
   clear hni;exact zz20
structure dI (V:World) (x:Fo):Prop where
 subs:x.av V (λc=>c∈x.ah)
 nd:x.ah.Nodup
 lt:∀c∈x.ah,c < V.heap.size
 lv:∀c∈x.ah,∀j,V.frozen? ⟨c,j,none⟩=false
theorem Mine.hold {V:World} {x:Fo} {b o:Nat} (h:Mine V x b o):dI V x:=⟨h.subs,(List.nodup_cons.1 h.nd).2,h.lt.2,λc hc=>h.lv c (.inr hc)⟩
theorem dI.mine {V:World} {x:Fo} {b:Nat} (h:dI V x) (hb:Bx V b x.vals) (hn:b∉x.ah):Mine V x b 0:=
 ⟨λi v hv=>by rw [Nat.zero_add];exact hb.ae i v hv,h.subs,List.nodup_cons.2 ⟨hn,h.nd⟩,⟨hb.lt,h.lt⟩,λc hc j=>by
  rcases hc with e | e
  .rw [e];exact hb.live j
  .exact h.lv c e j⟩
theorem dI.keep {V V':World} {x:Fo} (h:dI V x) {S:Nat->Prop} (k:Kept S V V') (hS:∀c∈x.ah,S c):dI V' x:=
 ⟨h.subs.kept k (λc hc=>⟨hS c hc,h.lt c hc⟩),h.nd,λc hc=>Nat.lt_of_lt_of_le (h.lt c hc) k.size,λc hc j=>(k.frozen (p:=⟨c,j,none⟩) (h.lt c hc) (hS c hc)).trans (h.lv c hc j)⟩
def mP (W:World) (b:Nat):Nat->List Value->World
 | _,[]=>W
 | o,v ::L=>mP (W.setCell ⟨b,o,none⟩ v) b (o+1) L
theorem AB (b:Nat):∀(L:List Value) (W:World) (o:Nat),(∀i,i < L.length->∃u,W.cell? ⟨b,o+i,none⟩=some u)->
  (∀i v,L[i]? =some v->(mP W b o L).cell? ⟨b,o+i,none⟩=some v)∧(∀j,(j < o∨o+L.length<=j)->(mP W b o L).cell? ⟨b,j,none⟩=W.cell? ⟨b,j,none⟩)∧Kept (λc=>c≠b) W (mP W b o L)∧∀c j,(mP W b o L).frozen? ⟨c,j,none⟩=W.frozen? ⟨c,j,none⟩
 | [],W,o,_=>⟨λi v h=>by simp at h,λj _=>rfl,Kept.refl _ _,λ_ _=>rfl⟩
 | x ::L,W,o,h=>by
  obtain ⟨u,hu⟩:=h 0 (Nat.succ_pos _);have hs:=qD (v:=x) hu;obtain ⟨g1,g2,g3,g4⟩:=AB b L (W.setCell ⟨b,o,none⟩ x) (o+1) (λi hi=>by
   obtain ⟨w,hw⟩:=h (i+1) (by simpa using hi);refine ⟨w,?_⟩;rw [Nat.add_zero] at hs;rw [hs,if_neg (by omega),show o+1+i=o+(i+1) from by omega];exact hw)
  rw [Nat.add_zero] at hs;refine ⟨λi v hv=>?_,λj hj=>?_,(Kept.setCell _ _ _ _ (by simp)).trans g3,λc j=>(g4 c j).trans (World.frozen?_setCell _ _ _ _)⟩
  .cases i with
   | zero=>
    have e:x=v:=by simpa using hv
    show (mP (W.setCell ⟨b,o,none⟩ x) b (o+1) L).cell? ⟨b,o+0,none⟩=some v;rw [g2 (o+0) (.inl (by omega)),hs,if_pos (by omega),e]
   | succ i=>
    have:=g1 i v (by simpa using hv)
    rwa [show o+1+i=o+(i+1) from by omega] at this
  .have hj2:j < o+1∨o+1+L.length<=j:=by simp only [List.length_cons] at hj;omega
   show (mP (W.setCell ⟨b,o,none⟩ x) b (o+1) L).cell? ⟨b,j,none⟩=_;rw [g2 j hj2,hs,if_neg (by simp only [List.length_cons] at hj;omega)]
theorem Mine.back {V V':World} {x y:Fo} {c o:Nat} (h:Mine V x c o) (hy:dI V' y) (hi:y.ah=x.ah) (hl:y.vals.length=x.vals.length) (h7:x.vals.length=7) (hk:Kept (λd=>d∉x.ah) V V') (hf:∀d j,d < V.heap.size->V'.frozen? ⟨d,j,none⟩=V.frozen? ⟨d,j,none⟩):
  Mine (mP V' c o y.vals) y c o∧aZ x.ah c o 7 V (mP V' c o y.vals):=by
 have hc:c∉x.ah:=(List.nodup_cons.1 h.nd).1;obtain ⟨g1,g2,g3,g4⟩:=AB c y.vals V' o (λi hi'=>by
  have hlt:i < x.vals.length:=by omega
  exact ⟨x.vals[i],(hk.cell (p:=⟨c,o+i,none⟩) h.lt.1 hc).trans (h.ae i _ (List.getElem?_eq_getElem hlt))⟩)
 have hne:∀d∈y.ah,d≠c:=λd hd e=>hc (by rw [<- hi,<- e];exact hd)
 refine ⟨⟨g1,hy.subs.kept g3 (λd hd=>⟨hne d hd,hy.lt d hd⟩),List.nodup_cons.2 ⟨by rw [hi];exact hc,hy.nd⟩,⟨Nat.lt_of_lt_of_le h.lt.1 (Nat.le_trans hk.size g3.size),λd hd=>Nat.lt_of_lt_of_le (hy.lt d hd) g3.size⟩,λd hd j=>?_⟩,(hk.mono (λd _ hd=>hd.2)).trans (g3.mono (λd _ hd=>hd.1)),λj hj=>?_,λd j hd=>(g4 d j).trans (hf d j hd)⟩
 .rw [g4]
  rcases hd with e | e
  .rw [e,hf c j h.lt.1];exact h.lv c (.inl rfl) j
  .exact hy.lv d e j
 .rw [g2 j (by omega)]
  exact hk.cell (p:=⟨c,j,none⟩) h.lt.1 hc
theorem Ko {f t:ByteArray} {P:Fo} {ka aa:Option Addr} {kn kc an ac:Nat} {kk ak:Fo} {m:Nat} {V:World} {b o j i:Nat} (hk:Fit E kk (rep (E 3) kn)) (ha:Fit E ak (rep (E 2) an)) (hQ:∀b o,∀e∈aS b o kk,oZ m e.x) (hP:P.len=5) (hj:j < kn) (hm:Mine V (zX f t P ka kn kc kk aa an ac ak j i) b o):
  ∃c p x,ka=some ⟨c,p,none⟩∧V.cell? ⟨b,o+5,none⟩=some (.slice (some ⟨c,p,none⟩) kn kc)∧Fit E x (E 3)∧oZ m x∧Mine V x c (p+j * 7)∧(∀V',Mine V' (dH f t true true x) c (p+j * 7)->aZ x.ah c (p+j * 7) 7 V V'->Mine V' (zX f t P ka kn kc kk aa an ac ak (j+1) i) b o∧aZ (zX f t P ka kn kc kk aa an ac ak 0 0).ah b o 7 V V')∧
   ∀d,d=c∨d∈x.ah->d∈(zX f t P ka kn kc kk aa an ac ak 0 0).ah:=by
 obtain ⟨g1,g2⟩:=iK f t kn j true true kk hk;obtain ⟨g3,g4⟩:=iK f t kn (j+1) true true kk hk;have hl0:0 < kk.len:=by
  exact zz176
 have hl:0 < (jo f t true true j kk).len:=by rw [g2];exact hl0
 obtain ⟨c,p,rfl,h0,mk,fin⟩:=Mine.deep 7 (X:=P) hm hl;rw [hP] at h0;obtain ⟨x,hx,hq,mx,mi,f2⟩:=row_step f t (Q:=oZ m) kn j p kk V hk hQ hj mk;refine ⟨c,p,x,rfl,h0,hx,hq,mx,λV' k1 k2=>?_,λd hd=>?_⟩
 .obtain ⟨z1,z2⟩:=f2 V' k1 k2
  exact zz128
 .unfold zX
  rw [Fo.aQ,jo,lX];refine List.mem_append.2 (.inr ?_);rcases hd with e | e
  .simp [Fo.ah,aT hl0,e]
  .simp [Fo.ah,mi d e]
def UD (f t:ByteArray) (m:Nat):Prop:=∀(x:Fo) (V:World),Fit E x (E 3)->oZ m x->dI V x->
 Calls Tryz.prog 42 #[.agg x.vals.toArray,.string f,.string t] V λe V'=>e=.returned (.agg (dH f t true true x).vals.toArray)∧dI V' (dH f t true true x)∧Kept (λd=>d∉x.ah) V V'∧∀d j,d < V.heap.size->V'.frozen? ⟨d,j,none⟩=V.frozen? ⟨d,j,none⟩
theorem zz1 {P:Prop} (h:P:=by
 rw [show min j J=j from by omega] at hinv;obtain ⟨c,p,y,ek,qR,hy,uh,my,fin,hin2⟩:=Cx.out wr j 0 hj hinv.out.1;subst ek;have hsl:wr.cell? ⟨s,5,none⟩=some (.slice (some ⟨c,p,none⟩) kn kc):=by simpa using qR
 have qU:c≠s∧∀d∈y.ah,d∈I:=⟨λe=>by have:=Bi.out c (hin2 c (.inl rfl));omega,λd hd=>hin2 d (.inr hd)⟩
 obtain ⟨xk,dJ,bP,dO,bQ,dP,wy,dQ,bR,dR,wz,dU,bS,dV,wB,dW,bT,dX,wC,hye,-⟩:=ag hy;have hyv:y.vals=[.int .i64 xk,.string dJ,.bool bP,.slice dO bQ dP,.slice dQ bR dR,.slice dU bS dV,.slice dW bT dX]:=by rw [hye];rfl
 obtain ⟨u,hu⟩:=nC f t (k:=xk) (nm:=dJ) (mn:=bP) (la:=dO) (na:=dQ) (ka:=dU) (aa:=dW) (ln:=bQ) (lc:=dP) (nn:=bR) (nc:=dR) (kn:=bS) (kc:=dV) (an:=bT) (ac:=dX) (lk:=wy) (nk:=wz) (kk:=wB) (ak:=wC);rw [<- hye] at hu;have y0:wr.cell? ⟨c,p+j * 7,none⟩=some (.int .i64 xk):=by simpa using my.ae 0 _ (by rw [hyv];rfl)
 have y1:wr.cell? ⟨c,p+j * 7+1,none⟩=some (.string dJ):=my.ae 1 _ (by rw [hyv];rfl);have y2:wr.cell? ⟨c,p+j * 7+2,none⟩=some (.bool bP):=my.ae 2 _ (by rw [hyv];rfl);have y3:wr.cell? ⟨c,p+j * 7+3,none⟩=some (.slice dO bQ dP):=my.ae 3 _ (by rw [hyv];rfl);have y4:wr.cell? ⟨c,p+j * 7+4,none⟩=some (.slice dQ bR dR):=my.ae 4 _ (by rw [hyv];rfl);have y5:wr.cell? ⟨c,p+j * 7+5,none⟩=some (.slice dU bS dV):=my.ae 5 _ (by rw [hyv];rfl);have y6:wr.cell? ⟨c,p+j * 7+6,none⟩=some (.slice dW bT dX):=my.ae 6 _ (by rw [hyv];rfl);have hcI:c≠s∧∀d∈y.ah,d∈I:=qU
 have lZ:Hid (Calls Tryz.prog 42 #[.agg #[.int .i64 xk,.string dJ,.bool bP,.slice dO bQ dP,.slice dQ bR dR,.slice dU bS dV,.slice dW bT dX],.string f,.string t] wr.drew λe w5=>∃v,e=.returned v∧∃u:ByteArray,v=.agg #[.int .i64 xk,.string u,.bool bP,.slice dO bQ dP,.slice dQ bR dR,.slice dU bS dV,.slice dW bT dX]∧Hid ((w5.cell? ⟨s,5,none⟩=some (.slice (some ⟨c,p,none⟩) kn kc)∧∀V',Kept (λd=>d≠c) w5 V'->V'.cell? ⟨s,5,none⟩=some (.slice (some ⟨c,p,none⟩) kn kc))∧((∃z,w5.cell? ⟨c,p+j * 7,none⟩=some z)∧(∃z,w5.cell? ⟨c,p+j * 7+1,none⟩=some z)∧(∃z,w5.cell? ⟨c,p+j * 7+2,none⟩=some z)∧(∃z,w5.cell? ⟨c,p+j * 7+3,none⟩=some z)∧(∃z,w5.cell? ⟨c,p+j * 7+4,none⟩=some z)∧(∃z,w5.cell? ⟨c,p+j * 7+5,none⟩=some z)∧(∃z,w5.cell? ⟨c,p+j * 7+6,none⟩=some z))∧(∀i,w5.frozen? ⟨c,i,none⟩=false)∧Mine (mP w5 c (p+j * 7) [.int .i64 xk,.string u,.bool bP,.slice dO bQ dP,.slice dQ bR dR,.slice dU bS dV,.slice dW bT dX]) (zX f t (.v (.int .i64 8) (.v (.string nm) (.v (.bool mn) (.s la ln lc lk (.s na nn nc nk .nil))))) (some ⟨c,p,none⟩) kn kc kk aa an ac ak (j+1) 0) s 0∧aZ I s 0 7 A2 (mP w5 c (p+j * 7) [.int .i64 xk,.string u,.bool bP,.slice dO bQ dP,.slice dQ bR dR,.slice dU bS dV,.slice dW bT dX]))):=by
  exact zz19
 have k0:wr.drew.cell? ⟨s,5,none⟩=some (.slice (some ⟨c,p,none⟩) kn kc):=hsl;obtain ⟨q0,q1,-,-⟩:=pz.out wr j 0 hinv.out.1;clear qR qU hcI hin2 my fin hy uh hye hyv hu
 go_upto_region 11 with fail
 refine wp_region_held_drew (S:=(λV=>V.cell? ⟨s,5,none⟩=some (.slice (some ⟨c,p,none⟩) kn kc))) (by kernel_rfl) k0 (λhHeld=>?_);refine tk 0 ?_;simp only [Act.put];refine tk 1 ?_;simp only [Act.put];refine tk 2 ?_;simp only [Act.put];refine tk 3 ?_;simp only [Act.put];refine tk 4 ?_;simp only [Act.put];refine tk 5 ?_;simp only [Act.put];refine tk 6 ?_;simp only [Act.put];refine tk 8 ?_;simp only [Act.put];refine tk 9 ?_;simp only [Act.put];refine rk 7 (λK hK=>?_);go_simp;refine hK.out _ _ ?_ (λhHeld=>?_)
 next=>
  exact zz9
 clear hK K;refine rk 10 (λK hK=>?_)
 (first | (refine aX (by rfl) 42 #[.agg #[.int .i64 xk,.string dJ,.bool bP,.slice dO bQ dP,.slice dQ bR dR,.slice dU bS dV,.slice dW bT dX],.string f,.string t] (by simp [go_sem]) _ lZ.out ?_;rintro v5 w5 ⟨u,rfl,h5⟩;obtain ⟨hk5,⟨⟨_,d0⟩,⟨_,d1⟩,⟨_,d2⟩,⟨_,d3⟩,⟨_,d4⟩,⟨_,d5⟩,⟨_,d6⟩⟩,hl5,yR⟩:=h5.out;have yS:=hide yR;have g0:=hl5 (p+j * 7);have g1:=hl5 (p+j * 7+1);have g2:=hl5 (p+j * 7+2);have g3:=hl5 (p+j * 7+3);have g4:=hl5 (p+j * 7+4);have g5:=hl5 (p+j * 7+5);have g6:=hl5 (p+j * 7+6);clear yR hl5) | fail)
 refine hK.out _ _ ?_ (λhHeld=>?_)
 next=>
  (try dsimp only);exact zz56
 clear hK K;refine tk 11 ?_;simp only [Act.put];refine rk 12 (λK hK=>?_);go_simp;refine hK.out _ _ ?_ (λhHeld=>?_)
 next=>
  (try dsimp only)
  (first | with_reducible exact k0 | with_reducible exact hk5.1 | exact hk5.2 _ (by (repeat first | (with_reducible refine Kept.set ?_ (by simp)) | with_reducible exact Kept.refl _ _);(first | done | fail)))
 clear hK K;refine wpAnyH_done (by kernel_rfl) ?_ _;have wu:Hid (Mine (mP w5 c (p+j * 7) [.int .i64 xk,.string u,.bool bP,.slice dO bQ dP,.slice dQ bR dR,.slice dU bS dV,.slice dW bT dX]) (zX f t (.v (.int .i64 8) (.v (.string nm) (.v (.bool mn) (.s la ln lc lk (.s na nn nc nk .nil))))) (some ⟨c,p,none⟩) kn kc kk aa an ac ak (j+1) 0) s 0∧aZ I s 0 7 A2 (mP w5 c (p+j * 7) [.int .i64 xk,.string u,.bool bP,.slice dO bQ dP,.slice dQ bR dR,.slice dU bS dV,.slice dW bT dX])):=yS.out;exact zz130):P:=h
theorem zz9 {P:Prop} (h:P:=by
 (try dsimp only);exact zz56):P:=h
theorem zz14 {P:Prop} (h:P:=by
 have hii:¬(i:Int) < (an:Int):=by omega
 rw [show min i N=N from by omega] at hinv;obtain ⟨hu,hcl⟩:=Xz.out wr hinv.out.1;obtain ⟨q0,q1,q2,q3,q4,q5,q6⟩:=hcl;have hkz:=hinv.out.2.kp;have hns:s+1≠s∧s+1∉I:=⟨by omega,λe=>by have:=Bi.out _ e;omega⟩
 have Mv:Hid (wr.heap[s+1]? =some (.cells #[.int .i64 0,.string {data:=#[]},.bool false,.slice none 0 0,.slice none 0 0,.slice none 0 0,.slice none 0 0] 35)):=(hkz.block (s+1) (block_lt_of_cell (oz.out.ae 0 _ rfl)) hns).trans Qx.out;have yw:=oz.out.kept hkz hns;have nJ:=hide (λW' k7 f7=>Ti.out wr W' nm hu hinv.out.1 hinv.out.2 k7 f7);have r0:=yw.ae 0 _ rfl;have r1:=yw.ae 1 _ rfl;have r2:=yw.ae 2 _ rfl;have r3:=yw.ae 3 _ rfl;have r4:=yw.ae 4 _ rfl;have r5:=yw.ae 5 _ rfl;have r6:=yw.ae 6 _ rfl;have v0:=yw.live 0;have v1:=yw.live 1;have v2:=yw.live 2;have v3:=yw.live 3;have v4:=yw.live 4;have v5:=yw.live 5;have v6:=yw.live 6;clear hinv hkz yw;go_wp2_with fail;refine bodyPost_ret (qQ Tryz.f42 rfl (jd _ _ _ _ _ _ _ Mv.out) rfl) rfl ?_;exact zz31):P:=h
theorem zz19 {P:Prop} (h:P:=by
 have h:=xW.out y wr.drew hy uh (my.hold.keep (Kept.drew (λ_=>True) wr) (λ_ _=>trivial));rw [hyv] at h;refine h.mono ?_;rintro e w5 ⟨rfl,z1,z2,z3⟩;have hi:=(ik f t true true hy).1;have k2:Kept (λd=>d∉y.ah) wr w5:=((Kept.drew (λd=>d∉y.ah) wr)).trans z2;obtain ⟨m1,m2⟩:=my.back z1 hi (by rw [hu,hyv];rfl) (by rw [hyv];rfl) k2 (λd j hd=>z3 d j hd);rw [hu] at m1 m2;obtain ⟨q1,q2⟩:=fin _ m1 m2;have hcn:c∉y.ah:=(List.nodup_cons.1 my.nd).1;have hsn:s∉y.ah:=λhx=>by have:=Bi.out s (hcI.2 s hx);omega
 have cc:∀j,w5.cell? ⟨c,j,none⟩=wr.cell? ⟨c,j,none⟩:=λj=>k2.cell (p:=⟨c,j,none⟩) my.lt.1 hcn
 have cs:=(k2.cell (p:=⟨s,5,none⟩) (block_lt_of_cell hsl) hsn).trans hsl;refine ⟨_,by rw [hu],u,rfl,⟨cs,λV' kV=>(kV.cell (p:=⟨s,5,none⟩) (block_lt_of_cell cs) (λe=>hcI.1 e.symm)).trans cs⟩,⟨⟨_,(cc _).trans y0⟩,⟨_,(cc _).trans y1⟩,⟨_,(cc _).trans y2⟩,⟨_,(cc _).trans y3⟩,⟨_,(cc _).trans y4⟩,⟨_,(cc _).trans y5⟩,⟨_,(cc _).trans y6⟩⟩,λi=>(z3 c i my.lt.1).trans (my.lv c (.inl rfl) i),q1,hinv.out.2.trans q2⟩):P:=h
theorem zz31 {P:Prop} (h:P:=by
 exact nJ.out _ (Kept.set (Kept.set (Kept.set (Kept.set (Kept.set (Kept.set (Kept.set (Kept.refl _ _) (λx=>x rfl)) (λx=>x rfl)) (λx=>x rfl)) (λx=>x rfl)) (λx=>x rfl)) (λx=>x rfl)) (λx=>x rfl)) (λd j=>by simp [World.frozen?_setCell])):P:=h
theorem zz56 {P:Prop} (h:P:=by
 (first | with_reducible exact k0 | with_reducible exact hk5.1 | exact hk5.2 _ (by (repeat first | (with_reducible refine Kept.set ?_ (by simp)) | with_reducible exact Kept.refl _ _);(first | done | fail)))):P:=h
theorem zz130 {P:Prop} (h:P:=by
 clear yS lZ hinv;go_wp2_with fail;go_roundw
 case rel=>exact ⟨j+1,by go_num,by omega,by rw [show min (j+1) J=j+1 from by omega];exact wu⟩
 case measure=>simp [intOf];omega):P:=h
theorem zz155 {P:Prop} (h:P:=by
 go_roundw
 case rel=>exact ⟨i+1,by go_num,by omega,by rw [show min (i+1) N=i+1 from by omega];exact wu⟩
 case measure=>simp [intOf];omega):P:=h
theorem zz225 {P:Prop} (h:P:=by
 refine bodyPost_ret (qQ Tryz.f42 rfl (jd _ _ _ _ _ _ _ Qx.out) rfl) rfl ?_;exact zz31):P:=h
theorem UC (f t:ByteArray) {k:Int} {nm:ByteArray} {mn:Value} {la na ka aa:Option Addr} {ln lc nn nc kn kc an ac:Nat} {lk nk kk ak:Fo} (h1:k≠1) (h8:k=8∨an=0) (h6:k=6∨k=7∨fe nk=[]) (hk:Fit E kk (rep (E 3) kn)) (ha:Fit E ak (rep (E 2) an)) (ht:k≠8->fV f (fe nk)=false):
  dH f t true true (.v (.int .i64 k) (.v (.string nm) (.v mn (.s la ln lc lk (.s na nn nc nk (.s ka kn kc kk (.s aa an ac ak .nil)))))))=zX f t (.v (.int .i64 k) (.v (.string nm) (.v mn (.s la ln lc lk (.s na nn nc nk .nil))))) ka kn kc kk aa an ac ak (if k=8∧(nm.toList==f.toList)=true then 1 else kn) (if k=8∧(nm.toList==f.toList)=true then 0 else an):=by
 by_cases e8:k=8
 .subst e8
  rw [Jj f t hk ha]
  simp
 .have ed:an=0:=h8.resolve_left e8
  subst ed;have hak:=ai ha;subst hak;have e1:(if k=8∧(nm.toList==f.toList)=true then 1 else kn)=kn:=if_neg (by simp [e8]);have e2:(if k=8∧(nm.toList==f.toList)=true then 0 else (0:Nat))=0:=by simp
  rw [Cs f t h1 e8 h6 hk,ht e8,e1,e2];unfold zX;rw [uX f t kn true true kk hk,lX];rfl
theorem Mo (f t:ByteArray) (m:Nat) (ih:UD f t m):UD f t (m+1):=by
 intro x V hx ⟨hm,hw,hg⟩ hH;obtain ⟨k,nm,mn,la,ln,lc,lk,na,nn,nc,nk,ka,kn,kc,kk,aa,an,ac,ak,hxe,-,hnm,h3,h4,h5,h6⟩:=ag hx;have hv:x.vals=[.int .i64 k,.string nm,.bool mn,.slice la ln lc,.slice na nn nc,.slice ka kn kc,.slice aa an ac]:=by rw [hxe];rfl
 rw [hxe,C.eT,C.dB] at hg;obtain ⟨mU,Eb,hga,-⟩:=hg;rw [C.pJ kn kk h5] at mU;have hm':=hm;have hw':=hw;rw [hxe] at hm' hw';simp only [Fo.size] at hm';simp only [Fo.wt,bU] at hw';have sS:=GA (m:=m) kn kk h5 (by omega) (by omega) Eb;have uY:=GD (m:=m) an ak h6 (by omega) (by omega) hga;obtain ⟨s,hs⟩:∃s,V.heap.size=s:=⟨_,rfl⟩
 obtain ⟨A1,hA1⟩:∃A,V.alloc (.cells #[.int .i64 k,.string nm,.bool mn,.slice la ln lc,.slice na nn nc,.slice ka kn kc,.slice aa an ac] 35)=A:=⟨_,rfl⟩
 obtain ⟨A2,hA2⟩:∃A,A1.alloc (.cells #[.int .i64 0,.string {data:=#[]},.bool false,.slice none 0 0,.slice none 0 0,.slice none 0 0,.slice none 0 0] 35)=A:=⟨_,rfl⟩
 have z1:A1.heap.size=s+1:=by rw [<- hA1,<- hs];simp
 have z2:A2.heap.size=s+2:=by rw [<- hA2,World.size_alloc,z1]
 have x1:Bx A1 s x.vals:=by rw [hv,<- hA1,<- hs];exact Bx.new _ _ _
 have y2:Bx A2 (s+1) [.int .i64 0,.string {data:=#[]},.bool false,.slice none 0 0,.slice none 0 0,.slice none 0 0,.slice none 0 0]:=by rw [<- hA2,<- z1];exact Bx.new _ _ _
 have qj:A2.heap[s+1]? =some (.cells #[.int .i64 0,.string {data:=#[]},.bool false,.slice none 0 0,.slice none 0 0,.slice none 0 0,.slice none 0 0] 35):=by rw [<- hA2,<- z1];exact bH _ _
 have k12:Kept (λ_=>True) A1 A2:=by rw [<- hA2];exact Kept.alloc _ _ _
 have x2:Bx A2 s x.vals:=x1.kept k12 trivial;have kV:Kept (λ_=>True) V A2:=by rw [<- hA2,<- hA1];exact (Kept.alloc _ _ _).trans (Kept.alloc _ _ _)
 have hlt:∀d∈x.ah,d < s:=λd hd=>by rw [<- hs];exact hH.lt d hd
 have hM:Mine A2 x s 0:=(hH.keep kV (λ_ _=>trivial)).mine x2 (λhc=>by have:=hlt s hc;omega);have hfz:∀d j,d < V.heap.size->A2.frozen? ⟨d,j,none⟩=V.frozen? ⟨d,j,none⟩:=λd j hd=>kV.frozen (p:=⟨d,j,none⟩) hd trivial
 have hC0:aZ x.ah s 0 7 A2 A2:=aZ.refl _ _ _ _ _;have pK:Hid (∀(wr W':World) (u:ByteArray),(dH f t true true x).vals=[.int .i64 k,.string u,.bool mn,.slice la ln lc,.slice na nn nc,.slice ka kn kc,.slice aa an ac]->Mine wr (dH f t true true x) s 0->aZ x.ah s 0 7 A2 wr->Kept (λc=>c≠s+1) wr W'->(∀d j,W'.frozen? ⟨d,j,none⟩=wr.frozen? ⟨d,j,none⟩)->Ending.returned (.agg #[.int .i64 k,.string u,.bool mn,.slice la ln lc,.slice na nn nc,.slice ka kn kc,.slice aa an ac])=.returned (.agg (dH f t true true x).vals.toArray)∧dI W' (dH f t true true x)∧Kept (λd=>d∉x.ah) V W'∧∀d j,d < V.heap.size->W'.frozen? ⟨d,j,none⟩=V.frozen? ⟨d,j,none⟩):=λwr W' u hu h1 h2 k7 f7=>by
  have hi:=(ik f t true true hx).1;refine ⟨by rw [hu],h1.hold.keep k7 (λc hc=>by rw [hi] at hc;have:=hlt c hc;show c≠s+1;omega),?_,λd j hd=>(f7 d j).trans ((h2.fz d j (Nat.lt_of_lt_of_le hd kV.size)).trans (hfz d j hd))⟩;exact ((kV.mono (λ_ _ _=>trivial)).trans (h2.kp.mono (T:=λd=>d∉x.ah∧d < s) (λd _ hd=>⟨by omega,hd.1⟩)) |>.trans (k7.mono (λd _ hd=>by show d≠s+1;omega))).mono (λd hl hd=>⟨hd,by omega⟩)
 have HA1:=hide hA1;have HA2:=hide hA2;have qY:=hide hs;have Qx:=hide qj;have oz:=hide y2;have xW:=hide ih;have c0:=x2.ae 0 _ (by rw [hv];rfl);have c1:=x2.ae 1 _ (by rw [hv];rfl);have c2:=x2.ae 2 _ (by rw [hv];rfl);have c3:=x2.ae 3 _ (by rw [hv];rfl);have c4:=x2.ae 4 _ (by rw [hv];rfl);have c5:=x2.ae 5 _ (by rw [hv];rfl);have c6:=x2.ae 6 _ (by rw [hv];rfl);have e0:=y2.ae 0 _ rfl;have Xw:=y2.ae 1 _ rfl;have e2:=y2.ae 2 _ rfl;have e3:=y2.ae 3 _ rfl;have e4:=y2.ae 4 _ rfl;have e5:=y2.ae 5 _ rfl;have e6:=y2.ae 6 _ rfl;have f0:=y2.live 0;have f1:=y2.live 1;have f2:=y2.live 2;have f3:=y2.live 3;have f4:=y2.live 4;have f5:=y2.live 5;have f6:=y2.live 6
 by_cases e1:k=1
 .subst e1
  obtain ⟨-,-,hal,-,-,hk0⟩:=(C.Ct _ _ _ _ _ _ _ _).1 mU;subst hk0;rw [C.kz an ak h6] at hal;subst hal;rw [ai h5,ai h6] at hxe;have hr:dH f t true true x=(.v (.int .i64 1) (.v (.string (Cu f t nm)) (.v (.bool mn) (.s la ln lc lk (.s na nn nc nk (.s ka 0 kc .nil (.s aa 0 ac .nil .nil))))))):=by
   rw [hxe,iN,dY,dY,gI];rfl
  have hlv:A2.frozen? ⟨s,1,none⟩=false:=x2.live 1;rw [hv]
  cases heq:nm.toList==f.toList with
  | true=>
   have hnn:Cu f t nm=t:=by unfold Cu;rw [heq];rfl
   rw [hnn] at hr;have hM2:=hM;rw [hxe] at hM2;obtain ⟨hm1,hm2⟩:=hM2.name (.string t) (Kept.refl (λ_=>True) A2);have hhz:(A2.setCell ⟨s,0+1,none⟩ (.string t)).heap[s+1]? =some (.cells #[.int .i64 0,.string {data:=#[]},.bool false,.slice none 0 0,.slice none 0 0,.slice none 0 0,.slice none 0 0] 35):=(Kept.setCell (λc=>c≠s) A2 ⟨s,0+1,none⟩ (.string t) (by simp) |>.block (s+1) (by omega) (by show s+1≠s;omega)).trans qj;have Xx:=hide hhz;have nJ:=hide (λW' k7 f7=>pK.out (A2.setCell ⟨s,0+1,none⟩ (.string t)) W' t (by rw [hr];rfl) (by rw [hr];exact hm1) (by rw [hxe];exact hm2) k7 f7);clear hM hM2 hm1 hm2 hr hxe hv x1 x2 y2 qj k12 kV hlt hC0 pK hhz hA1 hA2 hs z1 z2 hfz hH hx sS uY Eb hga mU hm hw hm' hw' h3 h4 h5 h6 ih;go_enter Tryz.func42,Tryz.ntmps42
   go_upto_region 1 with fail
   rw [qY.out,HA1.out,HA2.out];go_wp2_with fail;refine bodyPost_ret (qQ Tryz.f42 rfl (jd _ _ _ _ _ _ _ Xx.out) rfl) rfl ?_;exact zz31
  | false=>
   have hnn:Cu f t nm=nm:=by unfold Cu;rw [heq];rfl
   rw [hnn] at hr;have nJ:=hide (λW' k7 f7=>pK.out A2 W' nm (by rw [hr];rfl) (by rw [hr,<- hxe];exact hM) hC0 k7 f7);clear hM hr hxe hv x1 x2 y2 qj k12 kV hlt hC0 pK hA1 hA2 hs z1 z2 hfz hH hx sS uY Eb hga mU hm hw hm' hw' h3 h4 h5 h6 ih;go_enter Tryz.func42,Tryz.ntmps42
   go_upto_region 1 with fail
   rw [qY.out,HA1.out,HA2.out];go_wp2_with fail;exact zz225
 have Mq:k=8∨an=0:=by
  rcases mU.2.1 with h | h
  .exact .inl h
  .rw [C.kz an ak h6] at h;exact .inr h
 have GG:k=6∨k=7∨fe nk=[]:=by rw [Jk];exact mU.2.2.1
 have UE:k=8->kn=1∨kn=2:=λe=>by subst e;exact ((C.Cv _ _ _ _ _ _ _ _).1 mU).2.2.2.1
 have Qy:k=8->fe nk=[]:=λe=>by rcases GG with h | h | h;(· omega);(· omega);exact h
 have hM2:=hM;rw [hxe] at hM2;obtain ⟨-,Qz,-⟩:=Mine.split (x:=.v (.int .i64 k) (.v (.string nm) (.v (.bool mn) (.s la ln lc lk .nil)))) (q:=.s na nn nc nk (.s ka kn kc kk (.s aa an ac ak .nil))) hM2;obtain ⟨hT,QA⟩:=Qz.fe h4;have Cw:=hide (Mr (c:=nc) QA (by omega) hT f);have hb6:(k==6)=decide (k=6):=by cases h:k==6 <;> simp_all
 by_cases hb:k≠8∧fV f (fe nk)=true
 .obtain ⟨uV,hbt⟩:=hb
  have ed:an=0:=Mq.resolve_left uV;subst ed;have hak:=ai h6;subst hak;have hr:dH f t true true x=x:=by
   rw [hxe,Cs f t e1 uV GG h5,hbt];rfl
  have nJ:=hide (λW' k7 f7=>pK.out A2 W' nm (by rw [hr];exact hv) (by rw [hr];exact hM) hC0 k7 f7);rw [hbt] at Cw;have Xy:k=6∨k=7:=by
   rcases GG with h | h | h
   .exact .inl h
   .exact .inr h
   .rw [h] at hbt;exact absurd hbt (by simp [fV])
  rw [hv];clear hM hM2 Qz hT QA hr hxe hv x1 x2 y2 qj k12 kV hlt hC0 pK hA1 hA2 hs z1 z2 hfz hH hx sS uY Eb hga mU hm hw hm' hw' h3 h4 h5 h6 ih Mq UE Qy GG hbt hb6;rcases Xy with e | e <;> subst e
  all_goals
   go_enter Tryz.func42,Tryz.ntmps42
   go_upto_region 1 with fail
   rw [qY.out,HA1.out,HA2.out];go_wp2_with (go_at_call 62;refine Cw.out.mono ?_;rintro e w1 ⟨rfl,rfl⟩);exact zz225
 have GH:k≠8->fV f (fe nk)=false:=λe=>by
  cases h:fV f (fe nk) with
  | false=>rfl
  | true=>exact absurd ⟨e,h⟩ hb
 have UF:fV f (fe nk)=false:=by
  by_cases e:k=8
  .rw [Qy e];rfl
  .exact GH e
 rw [UF] at Cw;have jY:=UC f t (nm:=nm) (mn:=.bool mn) (la:=la) (na:=na) (ka:=ka) (aa:=aa) (ln:=ln) (lc:=lc) (nn:=nn) (nc:=nc) (kc:=kc) (ac:=ac) (lk:=lk) e1 Mq GG h5 h6 GH;rw [<- hxe] at jY;obtain ⟨J,hJ⟩:∃J,(if k=8∧(nm.toList==f.toList)=true then 1 else kn)=J:=⟨_,rfl⟩
 obtain ⟨N,hN⟩:∃N,(if k=8∧(nm.toList==f.toList)=true then 0 else an)=N:=⟨_,rfl⟩
 rw [hJ,hN] at jY;have hJk:J<=kn:=by
  rw [<- hJ]
  split
  .rename_i h;rcases UE h.1 with e | e <;> omega
  .exact Nat.le_refl _
 have hNk:N<=an:=by
  rw [<- hN]
  split
  .exact Nat.zero_le _
  .exact Nat.le_refl _
 have hX0:x=(zX f t (.v (.int .i64 k) (.v (.string nm) (.v (.bool mn) (.s la ln lc lk (.s na nn nc nk .nil))))) ka kn kc kk aa an ac ak 0 0):=by rw [hxe];unfold zX;rw [jo,lX];rfl
 obtain ⟨I,hI⟩:∃I,x.ah=I:=⟨_,rfl⟩
 have hIx:((zX f t (.v (.int .i64 k) (.v (.string nm) (.v (.bool mn) (.s la ln lc lk (.s na nn nc nk .nil))))) ka kn kc kk aa an ac ak 0 0)).ah=I:=by rw [<- hX0];exact hI
 have sP:Hid (Mine A2 (zX f t (.v (.int .i64 k) (.v (.string nm) (.v (.bool mn) (.s la ln lc lk (.s na nn nc nk .nil))))) ka kn kc kk aa an ac ak 0 0) s 0∧aZ I s 0 7 A2 A2):=⟨by rw [<- hX0];exact hM,aZ.refl _ _ _ _ _⟩
 have pz:Hid (∀W j i,Mine W ((zX f t (.v (.int .i64 k) (.v (.string nm) (.v (.bool mn) (.s la ln lc lk (.s na nn nc nk .nil))))) ka kn kc kk aa an ac ak j i)) s 0->W.cell? ⟨s,0,none⟩=some (.int .i64 k)∧W.cell? ⟨s,1,none⟩=some (.string nm)∧W.cell? ⟨s,5,none⟩=some (.slice ka kn kc)∧W.cell? ⟨s,6,none⟩=some (.slice aa an ac)):=λW j i h=>⟨by simpa using h.ae 0 _ rfl,by simpa using h.ae 1 _ rfl,by simpa using h.ae 5 _ rfl,by simpa using h.ae 6 _ rfl⟩
 have Bi:Hid (∀d∈I,d < s):=λd hd=>hlt d (by rw [hI];exact hd)
 have Cx:=hide (λ(W:World) (j i:Nat)=>Ko (f:=f) (t:=t) (P:=.v (.int .i64 k) (.v (.string nm) (.v (.bool mn) (.s la ln lc lk (.s na nn nc nk .nil))))) (ka:=ka) (aa:=aa) (kc:=kc) (ac:=ac) (V:=W) (b:=s) (o:=0) (j:=j) (i:=i) h5 h6 sS rfl);have HAS:=hide (λ(W:World) (j i:Nat)=>DZ (f:=f) (t:=t) (P:=.v (.int .i64 k) (.v (.string nm) (.v (.bool mn) (.s la ln lc lk (.s na nn nc nk .nil))))) (ka:=ka) (aa:=aa) (kc:=kc) (ac:=ac) (V:=W) (b:=s) (o:=0) (j:=j) (i:=i) h5 h6 uY rfl);rw [hIx] at Cx HAS;have hmx:kn<=9223372036854775807:=by omega
 have hmy:an<=9223372036854775807:=by omega
 have HBN:Hid (ak.wt<=1048576):=by show _<=_;omega
 have Tg:=hide jY;have Ti:=hide (λ(wr W':World) (u:ByteArray) (a1:(zX f t (.v (.int .i64 k) (.v (.string nm) (.v (.bool mn) (.s la ln lc lk (.s na nn nc nk .nil))))) ka kn kc kk aa an ac ak J N).vals=[.int .i64 k,.string u,.bool mn,.slice la ln lc,.slice na nn nc,.slice ka kn kc,.slice aa an ac]) (a2:Mine wr (zX f t (.v (.int .i64 k) (.v (.string nm) (.v (.bool mn) (.s la ln lc lk (.s na nn nc nk .nil))))) ka kn kc kk aa an ac ak J N) s 0) (a3:aZ I s 0 7 A2 wr)=>pK.out wr W' u (by rw [jY];exact a1) (by rw [jY];exact a2) (by rw [hI];exact a3));rw [hv]
 have Xz:Hid (∀W,Mine W (zX f t (.v (.int .i64 k) (.v (.string nm) (.v (.bool mn) (.s la ln lc lk (.s na nn nc nk .nil))))) ka kn kc kk aa an ac ak J N) s 0->(((zX f t (.v (.int .i64 k) (.v (.string nm) (.v (.bool mn) (.s la ln lc lk (.s na nn nc nk .nil))))) ka kn kc kk aa an ac ak J N)).vals=[.int .i64 k,.string nm,.bool mn,.slice la ln lc,.slice na nn nc,.slice ka kn kc,.slice aa an ac])∧W.cell? ⟨s,0,none⟩=some (.int .i64 k)∧W.cell? ⟨s,1,none⟩=some (.string nm)∧W.cell? ⟨s,2,none⟩=some (.bool mn)∧W.cell? ⟨s,3,none⟩=some (.slice la ln lc)∧W.cell? ⟨s,4,none⟩=some (.slice na nn nc)∧W.cell? ⟨s,5,none⟩=some (.slice ka kn kc)∧W.cell? ⟨s,6,none⟩=some (.slice aa an ac)):=λW h=>⟨rfl,by simpa using h.ae 0 _ rfl,by simpa using h.ae 1 _ rfl,by simpa using h.ae 2 _ rfl,by simpa using h.ae 3 _ rfl,by simpa using h.ae 4 _ rfl,by simpa using h.ae 5 _ rfl,by simpa using h.ae 6 _ rfl⟩
 rcases (by omega:k=8∨k≠8) with ek | UG
 .subst ek
  clear hM hM2 Qz hT QA jY hxe hv x1 x2 y2 qj k12 kV hlt hC0 pK hA1 hA2 hs z1 z2 hfz hH hx sS uY Eb hga mU hm hw hm' hw' h3 h4 h5 h6 ih Qy GG hb hb6 GH UF hX0 hIx hI Tg;go_enter Tryz.func42,Tryz.ntmps42
  go_upto_region 1 with fail
  rw [qY.out,HA1.out,HA2.out]
  go_upto_region 8 with (go_at_call 62;refine Cw.out.mono ?_;rintro e w1 ⟨rfl,hw1⟩;have Ms:=hw1.symm;clear hw1;subst Ms)
  go_loopw [7] (λs7 wr=>∃j:Nat,s7=.int .i64 (j:Int)∧j<=kn∧Hid (Mine wr (zX f t (.v (.int .i64 8) (.v (.string nm) (.v (.bool mn) (.s la ln lc lk (.s na nn nc nk .nil))))) ka kn kc kk aa an ac ak (min j J) 0) s 0∧aZ I s 0 7 A2 wr)) (λs7 _=>kn - (intOf s7).toNat)
  case atStart=>exact ⟨0,rfl,Nat.zero_le _,by rw [Nat.zero_min];exact sP⟩
  case round=>
   clear sP;obtain ⟨j,rfl,hjn,hinv⟩:=hrel
   by_cases hj:j < kn
   .have hjj:(j:Int) < (kn:Int):=by omega
    by_cases hj1:j=1
    .have XA:((j:Int)==1)=true:=by rw [beq_iff_eq];omega
     have HJE:=hide hj1;clear hj1
     cases hnf:nm.toList==f.toList with
     | true=>
      have hJ1:J=1:=by (rw [<- hJ];simp [hnf])
      have hje:=HJE.out;obtain ⟨q0,q1,q5,-⟩:=pz.out wr (min j J) 0 hinv.out.1;have wu:Hid (Mine wr (zX f t (.v (.int .i64 8) (.v (.string nm) (.v (.bool mn) (.s la ln lc lk (.s na nn nc nk .nil))))) ka kn kc kk aa an ac ak (min (j+1) J) 0) s 0∧aZ I s 0 7 A2 wr):=by rw [show min (j+1) J=min j J from by omega];exact hinv
      clear hinv hje hJ1;go_wp2_with fail;go_roundw
      case rel=>exact ⟨j+1,by go_num,by omega,wu⟩
      case measure=>simp [intOf];omega
     | false=>
      have XB:j < J:=by (rw [<- hJ];simp [hnf];exact hj)
      exact zz1
    .have XA:((j:Int)==1)=false:=by rw [beq_eq_false_iff_ne];omega
     have XB:j < J:=by (have h2:kn=1∨kn=2:=(by simpa using UE);rw [<- hJ];split <;> omega)
     exact zz1
   .have hjj:¬(j:Int) < (kn:Int):=by omega
    rw [show min j J=J from by omega] at hinv;obtain ⟨q0,q1,q5,q6⟩:=pz.out wr J 0 hinv.out.1;have om:=hinv;clear hinv
    go_upto_region 13 with fail
    go_loopw [8] (λs8 wr=>∃i:Nat,s8=.int .i64 (i:Int)∧i<=an∧Hid (Mine wr (zX f t (.v (.int .i64 8) (.v (.string nm) (.v (.bool mn) (.s la ln lc lk (.s na nn nc nk .nil))))) ka kn kc kk aa an ac ak J (min i N)) s 0∧aZ I s 0 7 A2 wr)) (λs8 _=>an - (intOf s8).toNat)
    case atStart=>exact ⟨0,rfl,Nat.zero_le _,by rw [Nat.zero_min];exact om⟩
    case round=>
     clear om q0 q1 q5 q6;obtain ⟨i,rfl,hin,hinv⟩:=hrel
     by_cases hi:i < an
     .have hii:(i:Int) < (an:Int):=by omega
      cases hnf:nm.toList==f.toList with
      | true=>
       have hN0:N=0:=by (rw [<- hN];simp [hnf])
       obtain ⟨q0,q1,-,q6⟩:=pz.out wr J (min i N) hinv.out.1;have wu:Hid (Mine wr (zX f t (.v (.int .i64 8) (.v (.string nm) (.v (.bool mn) (.s la ln lc lk (.s na nn nc nk .nil))))) ka kn kc kk aa an ac ak J (min (i+1) N)) s 0∧aZ I s 0 7 A2 wr):=by rw [show min (i+1) N=min i N from by omega];exact hinv
       clear hinv hN0;go_wp2_with fail;go_roundw
       case rel=>exact ⟨i+1,by go_num,by omega,wu⟩
       case measure=>simp [intOf];omega
      | false=>
       have hNa:N=an:=by (rw [<- hN];simp [hnf])
       rw [show min i N=i from by omega] at hinv;obtain ⟨c,p,y,ca,cn,cc,L,ea,qR,hy,uh,my,cnm,UH,hcn,hcw,fT,fF,hin2⟩:=HAS.out wr J i hi hinv.out.1;subst ea;have hsl:wr.cell? ⟨s,6,none⟩=some (.slice (some ⟨c,p,none⟩) an ac):=by simpa using qR
       have Jl:=hide (Mr (c:=cc) hcn (by have:=HBN.out;omega) UH f);obtain ⟨q0,q1,-,-⟩:=pz.out wr J i hinv.out.1;have qU:c≠s∧∀d∈y.ah,d∈I:=⟨λe=>by have:=Bi.out c (hin2 c (.inl rfl));omega,λd hd=>hin2 d (.inr hd)⟩
       cases hti:fV f L with
       | true=>
        rw [hti] at Jl;obtain ⟨z1,z2⟩:=fT hti wr (Kept.refl _ _);have wu:Hid (Mine wr (zX f t (.v (.int .i64 8) (.v (.string nm) (.v (.bool mn) (.s la ln lc lk (.s na nn nc nk .nil))))) ka kn kc kk (some ⟨c,p,none⟩) an ac ak J (i+1)) s 0∧aZ I s 0 7 A2 wr):=⟨z1,hinv.out.2.trans z2⟩
        clear hinv z1 z2 fT fF my hy uh UH hcn hcw hin2 qU qR hti;go_wp2_with (go_at_call 62;refine Jl.out.mono ?_;rintro e w2 ⟨rfl,hw2⟩;have Mt:=hw2.symm;clear hw2;subst Mt);exact zz155
       | false=>
        rw [hti] at Jl;have fin:=fF hti;obtain ⟨xk,dJ,bP,dO,bQ,dP,wy,dQ,bR,dR,wz,dU,bS,dV,wB,dW,bT,dX,wC,hye,-⟩:=ag hy;have hyv:y.vals=[.int .i64 xk,.string dJ,.bool bP,.slice dO bQ dP,.slice dQ bR dR,.slice dU bS dV,.slice dW bT dX]:=by rw [hye];rfl
        obtain ⟨u,hu⟩:=nC f t (k:=xk) (nm:=dJ) (mn:=bP) (la:=dO) (na:=dQ) (ka:=dU) (aa:=dW) (ln:=bQ) (lc:=dP) (nn:=bR) (nc:=dR) (kn:=bS) (kc:=dV) (an:=bT) (ac:=dX) (lk:=wy) (nk:=wz) (kk:=wB) (ak:=wC);rw [<- hye] at hu;have y0:wr.cell? ⟨c,p+i * 9+2,none⟩=some (.int .i64 xk):=by simpa using my.ae 0 _ (by rw [hyv];rfl)
        have y1:wr.cell? ⟨c,p+i * 9+2+1,none⟩=some (.string dJ):=my.ae 1 _ (by rw [hyv];rfl);have y2:wr.cell? ⟨c,p+i * 9+2+2,none⟩=some (.bool bP):=my.ae 2 _ (by rw [hyv];rfl);have y3:wr.cell? ⟨c,p+i * 9+2+3,none⟩=some (.slice dO bQ dP):=my.ae 3 _ (by rw [hyv];rfl);have y4:wr.cell? ⟨c,p+i * 9+2+4,none⟩=some (.slice dQ bR dR):=my.ae 4 _ (by rw [hyv];rfl);have y5:wr.cell? ⟨c,p+i * 9+2+5,none⟩=some (.slice dU bS dV):=my.ae 5 _ (by rw [hyv];rfl);have y6:wr.cell? ⟨c,p+i * 9+2+6,none⟩=some (.slice dW bT dX):=my.ae 6 _ (by rw [hyv];rfl);have hcI:c≠s∧∀d∈y.ah,d∈I:=qU
        have lZ:Hid (Calls Tryz.prog 42 #[.agg #[.int .i64 xk,.string dJ,.bool bP,.slice dO bQ dP,.slice dQ bR dR,.slice dU bS dV,.slice dW bT dX],.string f,.string t] wr.drew λe w5=>∃v,e=.returned v∧∃u:ByteArray,v=.agg #[.int .i64 xk,.string u,.bool bP,.slice dO bQ dP,.slice dQ bR dR,.slice dU bS dV,.slice dW bT dX]∧Hid ((w5.cell? ⟨s,6,none⟩=some (.slice (some ⟨c,p,none⟩) an ac)∧∀V',Kept (λd=>d≠c) w5 V'->V'.cell? ⟨s,6,none⟩=some (.slice (some ⟨c,p,none⟩) an ac))∧((∃z,w5.cell? ⟨c,p+i * 9+2,none⟩=some z)∧(∃z,w5.cell? ⟨c,p+i * 9+2+1,none⟩=some z)∧(∃z,w5.cell? ⟨c,p+i * 9+2+2,none⟩=some z)∧(∃z,w5.cell? ⟨c,p+i * 9+2+3,none⟩=some z)∧(∃z,w5.cell? ⟨c,p+i * 9+2+4,none⟩=some z)∧(∃z,w5.cell? ⟨c,p+i * 9+2+5,none⟩=some z)∧(∃z,w5.cell? ⟨c,p+i * 9+2+6,none⟩=some z))∧(∀i,w5.frozen? ⟨c,i,none⟩=false)∧Mine (mP w5 c (p+i * 9+2) [.int .i64 xk,.string u,.bool bP,.slice dO bQ dP,.slice dQ bR dR,.slice dU bS dV,.slice dW bT dX]) (zX f t (.v (.int .i64 8) (.v (.string nm) (.v (.bool mn) (.s la ln lc lk (.s na nn nc nk .nil))))) ka kn kc kk (some ⟨c,p,none⟩) an ac ak J (i+1)) s 0∧aZ I s 0 7 A2 (mP w5 c (p+i * 9+2) [.int .i64 xk,.string u,.bool bP,.slice dO bQ dP,.slice dQ bR dR,.slice dU bS dV,.slice dW bT dX]))):=by
         have h:=xW.out y wr.drew hy uh (my.hold.keep (Kept.drew (λ_=>True) wr) (λ_ _=>trivial));rw [hyv] at h;refine h.mono ?_;rintro e w5 ⟨rfl,z1,z2,z3⟩;have hi:=(ik f t true true hy).1;have k2:Kept (λd=>d∉y.ah) wr w5:=((Kept.drew (λd=>d∉y.ah) wr)).trans z2;obtain ⟨m1,m2⟩:=my.back z1 hi (by rw [hu,hyv];rfl) (by rw [hyv];rfl) k2 (λd j hd=>z3 d j hd);rw [hu] at m1 m2;obtain ⟨q1,q2⟩:=fin _ m1 m2;have hcn:c∉y.ah:=(List.nodup_cons.1 my.nd).1;have hsn:s∉y.ah:=λhx=>by have:=Bi.out s (hcI.2 s hx);omega
         have cc:∀j,w5.cell? ⟨c,j,none⟩=wr.cell? ⟨c,j,none⟩:=λj=>k2.cell (p:=⟨c,j,none⟩) my.lt.1 hcn
         have cs:=(k2.cell (p:=⟨s,6,none⟩) (block_lt_of_cell hsl) hsn).trans hsl;refine ⟨_,by rw [hu],u,rfl,⟨cs,λV' kV=>(kV.cell (p:=⟨s,6,none⟩) (block_lt_of_cell cs) (λe=>hcI.1 e.symm)).trans cs⟩,⟨⟨_,(cc _).trans y0⟩,⟨_,(cc _).trans y1⟩,⟨_,(cc _).trans y2⟩,⟨_,(cc _).trans y3⟩,⟨_,(cc _).trans y4⟩,⟨_,(cc _).trans y5⟩,⟨_,(cc _).trans y6⟩⟩,λi=>(z3 c i my.lt.1).trans (my.lv c (.inl rfl) i),q1,hinv.out.2.trans q2⟩
        have k0:wr.drew.cell? ⟨s,6,none⟩=some (.slice (some ⟨c,p,none⟩) an ac):=hsl;clear qR qU hcI hin2 my fin hy uh hye hyv hu fT fF UH hcn hcw hti
        go_upto_region 16 with (go_at_call 62;refine Jl.out.mono ?_;rintro e w2 ⟨rfl,hw2⟩;have Mt:=hw2.symm;clear hw2;subst Mt)
        refine wp_region_held_drew (S:=(λV=>V.cell? ⟨s,6,none⟩=some (.slice (some ⟨c,p,none⟩) an ac))) (by kernel_rfl) k0 (λhHeld=>?_);refine tk 0 ?_;simp only [Act.put];refine tk 1 ?_;simp only [Act.put];refine tk 2 ?_;simp only [Act.put];refine tk 3 ?_;simp only [Act.put];refine tk 4 ?_;simp only [Act.put];refine tk 5 ?_;simp only [Act.put];refine tk 6 ?_;simp only [Act.put];refine tk 7 ?_;simp only [Act.put];refine tk 9 ?_;simp only [Act.put];refine tk 10 ?_;simp only [Act.put];refine rk 8 (λK hK=>?_);go_simp;refine hK.out _ _ ?_ (λhHeld=>?_)
        next=>
         exact zz9
        clear hK K;refine rk 11 (λK hK=>?_)
        (first | (refine aX (by rfl) 42 #[.agg #[.int .i64 xk,.string dJ,.bool bP,.slice dO bQ dP,.slice dQ bR dR,.slice dU bS dV,.slice dW bT dX],.string f,.string t] (by simp [go_sem]) _ lZ.out ?_;rintro v5 w5 ⟨u,rfl,h5⟩;obtain ⟨hk5,⟨⟨_,d0⟩,⟨_,d1⟩,⟨_,d2⟩,⟨_,d3⟩,⟨_,d4⟩,⟨_,d5⟩,⟨_,d6⟩⟩,hl5,yR⟩:=h5.out;have yS:=hide yR;have g0:=hl5 (p+i * 9+2);have g1:=hl5 (p+i * 9+2+1);have g2:=hl5 (p+i * 9+2+2);have g3:=hl5 (p+i * 9+2+3);have g4:=hl5 (p+i * 9+2+4);have g5:=hl5 (p+i * 9+2+5);have g6:=hl5 (p+i * 9+2+6);clear yR hl5) | fail)
        refine hK.out _ _ ?_ (λhHeld=>?_)
        next=>
         exact zz9
        clear hK K;refine tk 12 ?_;simp only [Act.put];refine tk 13 ?_;simp only [Act.put];refine rk 14 (λK hK=>?_);go_simp;refine hK.out _ _ ?_ (λhHeld=>?_)
        next=>
         exact zz9
        clear hK K;refine wpAnyH_done (by kernel_rfl) ?_ _;have wu:Hid (Mine (mP w5 c (p+i * 9+2) [.int .i64 xk,.string u,.bool bP,.slice dO bQ dP,.slice dQ bR dR,.slice dU bS dV,.slice dW bT dX]) (zX f t (.v (.int .i64 8) (.v (.string nm) (.v (.bool mn) (.s la ln lc lk (.s na nn nc nk .nil))))) ka kn kc kk (some ⟨c,p,none⟩) an ac ak J (i+1)) s 0∧aZ I s 0 7 A2 (mP w5 c (p+i * 9+2) [.int .i64 xk,.string u,.bool bP,.slice dO bQ dP,.slice dQ bR dR,.slice dU bS dV,.slice dW bT dX])):=yS.out;clear yS lZ hinv;go_wp2_with fail;exact zz155
     .skip
      exact zz14
 .have g1:(k==1)=false:=by rw [beq_eq_false_iff_ne];exact e1
  have g8:(k==8)=false:=by rw [beq_eq_false_iff_ne];exact UG
  rcases (by cases (k==6) <;> cases (k==7) <;> simp:((k==6)=true∧True)∨((k==6)=false∧(k==7)=true)∨((k==6)=false∧(k==7)=false)) with ⟨g6,-⟩ | ⟨g6,g7⟩ | ⟨g6,g7⟩
  all_goals
   have hJe:Hid (J=kn):=by unfold Hid;rw [<- hJ];exact if_neg (λh=>UG h.1)
   have hNe:Hid (an=0):=Mq.resolve_left UG;clear Mq;clear hM hM2 Qz hT QA jY hxe hv x1 x2 y2 qj k12 kV hlt hC0 pK hA1 hA2 hs z1 z2 hfz hH hx sS uY Eb hga mU hm hw hm' hw' h3 h4 h5 h6 ih Qy GG hb hb6 GH UF hX0 hIx hI Tg;go_enter Tryz.func42,Tryz.ntmps42
   go_upto_region 1 with fail
   rw [qY.out,HA1.out,HA2.out]
   go_upto_region 8 with (go_at_call 62;refine Cw.out.mono ?_;rintro e w1 ⟨rfl,hw1⟩;have Ms:=hw1.symm;clear hw1;subst Ms)
   go_loopw [7] (λs7 wr=>∃j:Nat,s7=.int .i64 (j:Int)∧j<=kn∧Hid (Mine wr (zX f t (.v (.int .i64 k) (.v (.string nm) (.v (.bool mn) (.s la ln lc lk (.s na nn nc nk .nil))))) ka kn kc kk aa an ac ak (min j J) 0) s 0∧aZ I s 0 7 A2 wr)) (λs7 _=>kn - (intOf s7).toNat)
   case atStart=>exact ⟨0,rfl,Nat.zero_le _,by rw [Nat.zero_min];exact sP⟩
   case round=>
    clear sP;obtain ⟨j,rfl,hjn,hinv⟩:=hrel
    by_cases hj:j < kn
    .have hjj:(j:Int) < (kn:Int):=by omega
     have XB:j < J:=by have:=hJe.out;omega
     rw [show min j J=j from by omega] at hinv;obtain ⟨c,p,y,ek,qR,hy,uh,my,fin,hin2⟩:=Cx.out wr j 0 hj hinv.out.1;subst ek;have hsl:wr.cell? ⟨s,5,none⟩=some (.slice (some ⟨c,p,none⟩) kn kc):=by simpa using qR
     have qU:c≠s∧∀d∈y.ah,d∈I:=⟨λe=>by have:=Bi.out c (hin2 c (.inl rfl));omega,λd hd=>hin2 d (.inr hd)⟩
     obtain ⟨xk,dJ,bP,dO,bQ,dP,wy,dQ,bR,dR,wz,dU,bS,dV,wB,dW,bT,dX,wC,hye,-⟩:=ag hy;have hyv:y.vals=[.int .i64 xk,.string dJ,.bool bP,.slice dO bQ dP,.slice dQ bR dR,.slice dU bS dV,.slice dW bT dX]:=by rw [hye];rfl
     obtain ⟨u,hu⟩:=nC f t (k:=xk) (nm:=dJ) (mn:=bP) (la:=dO) (na:=dQ) (ka:=dU) (aa:=dW) (ln:=bQ) (lc:=dP) (nn:=bR) (nc:=dR) (kn:=bS) (kc:=dV) (an:=bT) (ac:=dX) (lk:=wy) (nk:=wz) (kk:=wB) (ak:=wC);rw [<- hye] at hu;have y0:wr.cell? ⟨c,p+j * 7,none⟩=some (.int .i64 xk):=by simpa using my.ae 0 _ (by rw [hyv];rfl)
     have y1:wr.cell? ⟨c,p+j * 7+1,none⟩=some (.string dJ):=my.ae 1 _ (by rw [hyv];rfl);have y2:wr.cell? ⟨c,p+j * 7+2,none⟩=some (.bool bP):=my.ae 2 _ (by rw [hyv];rfl);have y3:wr.cell? ⟨c,p+j * 7+3,none⟩=some (.slice dO bQ dP):=my.ae 3 _ (by rw [hyv];rfl);have y4:wr.cell? ⟨c,p+j * 7+4,none⟩=some (.slice dQ bR dR):=my.ae 4 _ (by rw [hyv];rfl);have y5:wr.cell? ⟨c,p+j * 7+5,none⟩=some (.slice dU bS dV):=my.ae 5 _ (by rw [hyv];rfl);have y6:wr.cell? ⟨c,p+j * 7+6,none⟩=some (.slice dW bT dX):=my.ae 6 _ (by rw [hyv];rfl);have hcI:c≠s∧∀d∈y.ah,d∈I:=qU
     have lZ:Hid (Calls Tryz.prog 42 #[.agg #[.int .i64 xk,.string dJ,.bool bP,.slice dO bQ dP,.slice dQ bR dR,.slice dU bS dV,.slice dW bT dX],.string f,.string t] wr.drew λe w5=>∃v,e=.returned v∧∃u:ByteArray,v=.agg #[.int .i64 xk,.string u,.bool bP,.slice dO bQ dP,.slice dQ bR dR,.slice dU bS dV,.slice dW bT dX]∧Hid ((w5.cell? ⟨s,5,none⟩=some (.slice (some ⟨c,p,none⟩) kn kc)∧∀V',Kept (λd=>d≠c) w5 V'->V'.cell? ⟨s,5,none⟩=some (.slice (some ⟨c,p,none⟩) kn kc))∧((∃z,w5.cell? ⟨c,p+j * 7,none⟩=some z)∧(∃z,w5.cell? ⟨c,p+j * 7+1,none⟩=some z)∧(∃z,w5.cell? ⟨c,p+j * 7+2,none⟩=some z)∧(∃z,w5.cell? ⟨c,p+j * 7+3,none⟩=some z)∧(∃z,w5.cell? ⟨c,p+j * 7+4,none⟩=some z)∧(∃z,w5.cell? ⟨c,p+j * 7+5,none⟩=some z)∧(∃z,w5.cell? ⟨c,p+j * 7+6,none⟩=some z))∧(∀i,w5.frozen? ⟨c,i,none⟩=false)∧Mine (mP w5 c (p+j * 7) [.int .i64 xk,.string u,.bool bP,.slice dO bQ dP,.slice dQ bR dR,.slice dU bS dV,.slice dW bT dX]) (zX f t (.v (.int .i64 k) (.v (.string nm) (.v (.bool mn) (.s la ln lc lk (.s na nn nc nk .nil))))) (some ⟨c,p,none⟩) kn kc kk aa an ac ak (j+1) 0) s 0∧aZ I s 0 7 A2 (mP w5 c (p+j * 7) [.int .i64 xk,.string u,.bool bP,.slice dO bQ dP,.slice dQ bR dR,.slice dU bS dV,.slice dW bT dX]))):=by
      exact zz19
     have k0:wr.drew.cell? ⟨s,5,none⟩=some (.slice (some ⟨c,p,none⟩) kn kc):=hsl;obtain ⟨q0,q1,-,-⟩:=pz.out wr j 0 hinv.out.1;clear qR qU hcI hin2 my fin hy uh hye hyv hu
     go_upto_region 11 with fail
     refine wp_region_held_drew (S:=(λV=>V.cell? ⟨s,5,none⟩=some (.slice (some ⟨c,p,none⟩) kn kc))) (by kernel_rfl) k0 (λhHeld=>?_);refine tk 0 ?_;simp only [Act.put];refine tk 1 ?_;simp only [Act.put];refine tk 2 ?_;simp only [Act.put];refine tk 3 ?_;simp only [Act.put];refine tk 4 ?_;simp only [Act.put];refine tk 5 ?_;simp only [Act.put];refine tk 6 ?_;simp only [Act.put];refine tk 8 ?_;simp only [Act.put];refine tk 9 ?_;simp only [Act.put];refine rk 7 (λK hK=>?_);go_simp;refine hK.out _ _ ?_ (λhHeld=>?_)
     next=>
      exact zz9
     clear hK K;refine rk 10 (λK hK=>?_)
     (first | (refine aX (by rfl) 42 #[.agg #[.int .i64 xk,.string dJ,.bool bP,.slice dO bQ dP,.slice dQ bR dR,.slice dU bS dV,.slice dW bT dX],.string f,.string t] (by simp [go_sem]) _ lZ.out ?_;rintro v5 w5 ⟨u,rfl,h5⟩;obtain ⟨hk5,⟨⟨_,d0⟩,⟨_,d1⟩,⟨_,d2⟩,⟨_,d3⟩,⟨_,d4⟩,⟨_,d5⟩,⟨_,d6⟩⟩,hl5,yR⟩:=h5.out;have yS:=hide yR;have g0:=hl5 (p+j * 7);have g1:=hl5 (p+j * 7+1);have g2:=hl5 (p+j * 7+2);have g3:=hl5 (p+j * 7+3);have g4:=hl5 (p+j * 7+4);have g5:=hl5 (p+j * 7+5);have g6:=hl5 (p+j * 7+6);clear yR hl5) | fail)
     refine hK.out _ _ ?_ (λhHeld=>?_)
     next=>
      exact zz9
     clear hK K;refine tk 11 ?_;simp only [Act.put];refine rk 12 (λK hK=>?_);go_simp;refine hK.out _ _ ?_ (λhHeld=>?_)
     next=>
      exact zz9
     clear hK K;refine wpAnyH_done (by kernel_rfl) ?_ _;have wu:Hid (Mine (mP w5 c (p+j * 7) [.int .i64 xk,.string u,.bool bP,.slice dO bQ dP,.slice dQ bR dR,.slice dU bS dV,.slice dW bT dX]) (zX f t (.v (.int .i64 k) (.v (.string nm) (.v (.bool mn) (.s la ln lc lk (.s na nn nc nk .nil))))) (some ⟨c,p,none⟩) kn kc kk aa an ac ak (j+1) 0) s 0∧aZ I s 0 7 A2 (mP w5 c (p+j * 7) [.int .i64 xk,.string u,.bool bP,.slice dO bQ dP,.slice dQ bR dR,.slice dU bS dV,.slice dW bT dX])):=yS.out;exact zz130
    .have hjj:¬(j:Int) < (kn:Int):=by omega
     rw [show min j J=J from by omega] at hinv;obtain ⟨q0,q1,q5,q6⟩:=pz.out wr J 0 hinv.out.1;have om:=hinv;clear hinv
     go_upto_region 13 with fail
     go_loopw [8] (λs8 wr=>∃i:Nat,s8=.int .i64 (i:Int)∧i<=an∧Hid (Mine wr (zX f t (.v (.int .i64 k) (.v (.string nm) (.v (.bool mn) (.s la ln lc lk (.s na nn nc nk .nil))))) ka kn kc kk aa an ac ak J (min i N)) s 0∧aZ I s 0 7 A2 wr)) (λs8 _=>an - (intOf s8).toNat)
     case atStart=>exact ⟨0,rfl,Nat.zero_le _,by rw [Nat.zero_min];exact om⟩
     case round=>
      clear om q0 q1 q5 q6;obtain ⟨i,rfl,hin,hinv⟩:=hrel
      by_cases hi:i < an
      .have hii:(i:Int) < (an:Int):=by omega
       exact absurd hi (by have:=hNe.out;omega)
      .skip
       exact zz14
end Go.Proofs.YthfnobboalhihaaGreat
