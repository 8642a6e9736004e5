import Derived.Test.YthfnobboalhihaaGreatMh
import Derived.Test.YthfnobboalhihaaGreatMf
set_option maxHeartbeats 4000000
set_option maxRecDepth 100000
namespace Go.Proofs.YthfnobboalhihaaGreat
open Go.RowKit Go.Joins
theorem Kj (f t:ByteArray):∀m,UD f t m
 | 0=>λx _ hx hq _=>absurd (Fit.len hx) (by have:=x.fJ;have:=hq.1;show ¬x.len=7;omega)
 | m+1=>Mo f t m (Kj f t m)
theorem Own.hold {V:World} {lo:Nat} {x:Fo} (h:Own lo V x):dI V x:=⟨h.subs.own,h.nodup,λc hc=>(h.subs.bu c hc).2,λc hc j=>h.live c hc j⟩
theorem dI.own {V:World} {lo:Nat} {x:Fo} (h:dI V x) (hl:∀c∈x.ah,lo<=c):Own lo V x:=⟨h.subs.mono (λc hc=>⟨hl c hc,h.lt c hc⟩),h.nd,λc hc j=>h.lv c hc j⟩
theorem xK (f t:ByteArray) {G:Fo} {k:Int} {nm:ByteArray} {mn:Bool} {la na ka aa:Option Addr} {ln lc nn nc kn kc an ac:Nat} {lk nk kk ak:Fo} (h:G.aG (.v (.int .i64 k) (.v (.string nm) (.v (.bool mn) (.s la ln lc lk (.s na nn nc nk (.s ka kn kc kk (.s aa an ac ak .nil)))))))):
  ∃(la' na' dC dA:Option Addr) (fu bI eY eZ:Nat),G.vals=[.int .i64 k,.string nm,.bool mn,.slice la' ln fu,.slice na' nn bI,.slice dC kn eY,.slice dA an eZ]∧∃kD:ByteArray,(dH f t true true G).vals=[.int .i64 k,.string kD,.bool mn,.slice la' ln fu,.slice na' nn bI,.slice dC kn eY,.slice dA an eZ]:=by
 obtain ⟨q1,rfl,h1⟩:=Fo.aP h;obtain ⟨q2,rfl,h2⟩:=Fo.aP h1;obtain ⟨q3,rfl,h3⟩:=Fo.aP h2;obtain ⟨la',fu,lk',q4,rfl,s3,h4⟩:=Fo.aI h3;obtain ⟨na',bI,Bh,q5,rfl,s4,h5⟩:=Fo.aI h4;obtain ⟨dC,eY,xU,q6,rfl,s5,h6⟩:=Fo.aI h5;obtain ⟨dA,eZ,bG,q7,rfl,s6,h7⟩:=Fo.aI h6;obtain rfl:=Fo.cB h7;exact ⟨la',na',dC,dA,fu,bI,eY,eZ,rfl,nC f t⟩
theorem ZH {F:Fo} (W:World) (f t:ByteArray) (hf:Fit E F (E 3)) (hw:F.wt<=1048576) (hs:F.av W (λc=>c < W.heap.size)) (hg:(C.di F).good):
  Calls Tryz.prog 17 #[.agg F.vals.toArray,.string f,.string t] W λe W'=>∃g:Fo,e=.returned (.agg g.vals.toArray)∧g.aG (dH f t true true F)∧Own W.heap.size W' g∧Below W.heap.size W W':=by
 obtain ⟨s,hss⟩:∃s,W.heap.size=s:=⟨_,rfl⟩
 obtain ⟨k,nm,mn,la,ln,lc,lk,na,nn,nc,nk,ka,kn,kc,kk,aa,an,ac,ak,hxe,-⟩:=ag hf;have hv:F.vals=[.int .i64 k,.string nm,.bool mn,.slice la ln lc,.slice na nn nc,.slice ka kn kc,.slice aa an ac]:=by rw [hxe];rfl
 obtain ⟨A1,hA1⟩:∃A,W.alloc (.cells #[.int .i64 k,.string nm,.bool mn,.slice la ln lc,.slice na nn nc,.slice ka kn kc,.slice aa an ac] 35)=A:=⟨_,rfl⟩
 obtain ⟨A2,hA2⟩:∃A,A1.alloc (.cells #[.int .i64 0,.string {data:=#[]},.bool false,.slice none 0 0,.slice none 0 0,.slice none 0 0,.slice none 0 0] 35)=A:=⟨_,rfl⟩
 have z1:A1.heap.size=s+1:=by rw [<- hA1,<- hss];simp
 have z2:A2.heap.size=s+2:=by rw [<- hA2,World.size_alloc,z1]
 have x1:Bx A1 s F.vals:=by rw [hv,<- hA1,<- hss];exact Bx.new _ _ _
 have y2:Bx A2 (s+1) [.int .i64 0,.string {data:=#[]},.bool false,.slice none 0 0,.slice none 0 0,.slice none 0 0,.slice none 0 0]:=by rw [<- hA2,<- z1];exact Bx.new _ _ _
 have qj:A2.heap[s+1]? =some (.cells #[.int .i64 0,.string {data:=#[]},.bool false,.slice none 0 0,.slice none 0 0,.slice none 0 0,.slice none 0 0] 35):=by rw [<- hA2,<- z1];exact bH _ _
 have k12:Kept (λ_=>True) A1 A2:=by rw [<- hA2];exact Kept.alloc _ _ _
 have x2:Bx A2 s F.vals:=x1.kept k12 trivial;have kW:Kept (λ_=>True) W A2:=by rw [<- hA2,<- hA1];exact (Kept.alloc _ _ _).trans (Kept.alloc _ _ _)
 have b2:Below W.heap.size W A2:=Below.kept (Below.refl _ _) kW (λ_ _=>trivial) (Nat.le_refl _)
 have vW:Hid (Calls Tryz.prog 16 #[.agg #[.int .i64 k,.string nm,.bool mn,.slice la ln lc,.slice na nn nc,.slice ka kn kc,.slice aa an ac]] A2 λe w1=>∃(la' na' dC dA:Option Addr) (fu bI eY eZ:Nat),e=.returned (.agg #[.int .i64 k,.string nm,.bool mn,.slice la' ln fu,.slice na' nn bI,.slice dC kn eY,.slice dA an eZ])∧Hid (Calls Tryz.prog 42 #[.agg #[.int .i64 k,.string nm,.bool mn,.slice la' ln fu,.slice na' nn bI,.slice dC kn eY,.slice dA an eZ],.string f,.string t] w1 λe w2=>∃kD:ByteArray,e=.returned (.agg #[.int .i64 k,.string kD,.bool mn,.slice la' ln fu,.slice na' nn bI,.slice dC kn eY,.slice dA an eZ])∧Hid (Bx w2 (s+1) [.int .i64 0,.string {data:=#[]},.bool false,.slice none 0 0,.slice none 0 0,.slice none 0 0,.slice none 0 0]∧w2.heap[s+1]? =some (.cells #[.int .i64 0,.string {data:=#[]},.bool false,.slice none 0 0,.slice none 0 0,.slice none 0 0,.slice none 0 0] 35)∧∀W',Kept (λc=>c≠s+1) w2 W'->∃g:Fo,Ending.returned (.agg #[.int .i64 k,.string kD,.bool mn,.slice la' ln fu,.slice na' nn bI,.slice dC kn eY,.slice dA an eZ])=.returned (.agg g.vals.toArray)∧g.aG (dH f t true true F)∧Own W.heap.size W' g∧Below W.heap.size W W'))):=by
  have h:=JJ F.size F W.heap.size A2 (Nat.le_refl _) hf kW.size hw (hs.kept kW (λc hc=>⟨trivial,hc⟩));rw [hv] at h;refine h.mono ?_;rintro e w1 ⟨G,rfl,g1,g2,g3⟩;obtain ⟨la',na',dC,dA,fu,bI,eY,eZ,gv,kD,gu⟩:=xK f t (G:=G) (by rw [<- hxe];exact g1);refine ⟨la',na',dC,dA,fu,bI,eY,eZ,by rw [gv],?_⟩;have hgg:(C.di G).good:=by rw [((C.DC F.size).1 F G 1 (Nat.le_refl _) (C.qd hf)).2 g1];exact hg
  have h2:=Kj f t G.size G w1 (g1.fit hf) ⟨Nat.le_refl _,by rw [g1.wt];exact hw,hgg⟩ g3.hold;rw [gv] at h2;refine h2.mono ?_;rintro e w2 ⟨rfl,p1,p2,p3⟩;have hi:=(ik f t true true (g1.fit hf)).1;have hge:∀c∈G.ah,s+2<=c:=λc hc=>by have:=(g3.subs.bu c hc).1;omega
  have hy1:Kept (λc=>c < s+2) A2 w2:=(kt (S:=λc=>c < s+2) g2).trans (p2.mono (λc _ hc hx=>by have:=hge c hx;omega));refine ⟨kD,by rw [gu],y2.kept hy1 (by show s+1 < s+2;omega),(hy1.block (s+1) (by omega) (by show s+1 < s+2;omega)).trans qj,λW' IB=>⟨dH f t true true G,by rw [gu],yM f t hf g1,?_,?_⟩⟩
  .exact (p1.keep IB (λc hc=>by rw [hi] at hc;have:=hge c hc;show c≠s+1;omega)).own (λc hc=>by rw [hi] at hc;have:=hge c hc;omega)
  .exact Below.kept (Below.kept b2 hy1 (λc hc=>by show c < s+2;omega) (Nat.le_refl _)) IB (λc hc=>by show c≠s+1;omega) (Nat.le_refl _)
 have HS:=hide hss;have HA1:=hide hA1;have HA2:=hide hA2;have c0:=x2.ae 0 _ (by rw [hv];rfl);have c1:=x2.ae 1 _ (by rw [hv];rfl);have c2:=x2.ae 2 _ (by rw [hv];rfl);have c3:=x2.ae 3 _ (by rw [hv];rfl);have c4:=x2.ae 4 _ (by rw [hv];rfl);have c5:=x2.ae 5 _ (by rw [hv];rfl);have c6:=x2.ae 6 _ (by rw [hv];rfl);rw [hv];clear hss hA1 hA2 z1 z2 x1 y2 qj k12 x2 kW b2 hxe hv hg hs hw hf;go_enter Tryz.func17,Tryz.ntmps17
 go_upto_region 1 with fail
 rw [HS.out,HA1.out,HA2.out];go_wp2_with (first | (go_at_call 16;refine vW.out.mono ?_;rintro e w1 ⟨la',na',dC,dA,fu,bI,eY,eZ,rfl,h42⟩) | (go_at_call 42;refine h42.out.mono ?_;rintro e w2 ⟨kD,rfl,h5⟩;obtain ⟨yb,vL,hfin⟩:=h5.out;have Dq:=hide vL;have Dr:=hide hfin;have e0:=yb.ae 0 _ rfl;have e1:=yb.ae 1 _ rfl;have e2:=yb.ae 2 _ rfl;have e3:=yb.ae 3 _ rfl;have e4:=yb.ae 4 _ rfl;have e5:=yb.ae 5 _ rfl;have e6:=yb.ae 6 _ rfl;have f0:=yb.live 0;have f1:=yb.live 1;have f2:=yb.live 2;have f3:=yb.live 3;have f4:=yb.live 4;have f5:=yb.live 5;have f6:=yb.live 6;clear vL hfin yb h5 h42));refine bodyPost_ret (qQ Tryz.f17 rfl (jd _ _ _ _ _ _ _ Dq.out) rfl) rfl ?_;exact zz28
theorem zz39 {P:Prop} (h:P:=by
 go_wp2_with (go_at_call 16;refine VJ.out.mono ?_;rintro e w2 ⟨kD,la',na',dC,dA,fu,bI,eY,eZ,rfl,h5⟩;obtain ⟨yb,vL,hfin⟩:=h5.out;have Dq:=hide vL;have Dr:=hide hfin;have e0:=yb.ae 0 _ rfl;have e1:=yb.ae 1 _ rfl;have e2:=yb.ae 2 _ rfl;have e3:=yb.ae 3 _ rfl;have e4:=yb.ae 4 _ rfl;have e5:=yb.ae 5 _ rfl;have e6:=yb.ae 6 _ rfl;have f0:=yb.live 0;have f1:=yb.live 1;have f2:=yb.live 2;have f3:=yb.live 3;have f4:=yb.live 4;have f5:=yb.live 5;have f6:=yb.live 6;clear vL hfin yb h5);exact zz229):P:=h
theorem zz229 {P:Prop} (h:P:=by
 refine bodyPost_ret (qQ Tryz.f5 rfl (jd _ _ _ _ _ _ _ Dq.out) rfl) rfl ?_;exact zz28):P:=h
theorem Lg {F:Fo} (W:World) (f t:ByteArray) (hf:Fit E F (E 3)) (hw:F.wt<=1048576) (hs:F.av W (λc=>c < W.heap.size)):
  Calls Tryz.prog 5 #[.agg F.vals.toArray,.string f,.string t] W λe W'=>∃g:Fo,e=.returned (.agg g.vals.toArray)∧g.aG (nH f t F)∧Own W.heap.size W' g∧Below W.heap.size W W':=by
 obtain ⟨s,hss⟩:∃s,W.heap.size=s:=⟨_,rfl⟩
 obtain ⟨k,nm,mn,la,ln,lc,lk,na,nn,nc,nk,ka,kn,kc,kk,aa,an,ac,ak,hxe,-⟩:=ag hf;have hv:F.vals=[.int .i64 k,.string nm,.bool mn,.slice la ln lc,.slice na nn nc,.slice ka kn kc,.slice aa an ac]:=by rw [hxe];rfl
 obtain ⟨A1,hA1⟩:∃A,W.alloc (.cells #[.int .i64 k,.string nm,.bool mn,.slice la ln lc,.slice na nn nc,.slice ka kn kc,.slice aa an ac] 35)=A:=⟨_,rfl⟩
 obtain ⟨A2,hA2⟩:∃A,A1.alloc (.cells #[.int .i64 0,.string {data:=#[]},.bool false,.slice none 0 0,.slice none 0 0,.slice none 0 0,.slice none 0 0] 35)=A:=⟨_,rfl⟩
 have z1:A1.heap.size=s+1:=by rw [<- hA1,<- hss];simp
 have z2:A2.heap.size=s+2:=by rw [<- hA2,World.size_alloc,z1]
 have x1:Bx A1 s F.vals:=by rw [hv,<- hA1,<- hss];exact Bx.new _ _ _
 have y2:Bx A2 (s+1) [.int .i64 0,.string {data:=#[]},.bool false,.slice none 0 0,.slice none 0 0,.slice none 0 0,.slice none 0 0]:=by rw [<- hA2,<- z1];exact Bx.new _ _ _
 have qj:A2.heap[s+1]? =some (.cells #[.int .i64 0,.string {data:=#[]},.bool false,.slice none 0 0,.slice none 0 0,.slice none 0 0,.slice none 0 0] 35):=by rw [<- hA2,<- z1];exact bH _ _
 have k12:Kept (λ_=>True) A1 A2:=by rw [<- hA2];exact Kept.alloc _ _ _
 have x2:Bx A2 s F.vals:=x1.kept k12 trivial;have kW:Kept (λ_=>True) W A2:=by rw [<- hA2,<- hA1];exact (Kept.alloc _ _ _).trans (Kept.alloc _ _ _)
 have b2:Below W.heap.size W A2:=Below.kept (Below.refl _ _) kW (λ_ _=>trivial) (Nat.le_refl _);have hs2:F.av A2 (λc=>c < A2.heap.size):=(hs.kept kW (λc hc=>⟨trivial,hc⟩)).mono (λc hc=>by have:c < W.heap.size:=hc;omega);have RZ:=hide (C.Ox F A2 hf hw hs2);have hsub:∀w1,Below A2.heap.size A2 w1->F.av w1 (λc=>c < w1.heap.size):=λw1 b1=>(hs2.below b1 (λc hc=>hc)).mono (λc hc=>Nat.lt_of_lt_of_le hc b1.size)
 have hfin:∀(w1 w2:World) (G:Fo),Below A2.heap.size A2 w1->G.aG (nH f t F)->Own w1.heap.size w2 G->Below w1.heap.size w1 w2->Bx w2 (s+1) [.int .i64 0,.string {data:=#[]},.bool false,.slice none 0 0,.slice none 0 0,.slice none 0 0,.slice none 0 0]∧w2.heap[s+1]? =some (.cells #[.int .i64 0,.string {data:=#[]},.bool false,.slice none 0 0,.slice none 0 0,.slice none 0 0,.slice none 0 0] 35)∧∀W',Kept (λc=>c≠s+1) w2 W'->G.aG (nH f t F)∧Own W.heap.size W' G∧Below W.heap.size W W':=λw1 w2 G b1 g1 g2 g3=>by
  have hz1:=b1.size;have b12:Below A2.heap.size A2 w2:=b1.trans (g3.mono hz1);refine ⟨y2.JI b12 (by omega),(b12.block (s+1) (by omega)).trans qj,λW' IB=>⟨g1,(g2.kept IB (λc hc _=>by show c≠s+1;omega)).mono (by omega),?_⟩⟩;exact Below.kept (b2.trans (b12.mono (by omega))) IB (λc hc=>by show c≠s+1;omega) (Nat.le_refl _)
 have hcell:∀G:Fo,G.aG (nH f t F)->∃(kD:ByteArray) (la' na' dC dA:Option Addr) (fu bI eY eZ:Nat),G.vals=[.int .i64 k,.string kD,.bool mn,.slice la' ln fu,.slice na' nn bI,.slice dC kn eY,.slice dA an eZ]:=λG hG=>by
  by_cases hy:C.rE (C.di F)∧¬t=⟨#[]⟩
  .unfold nH at hG
   rw [if_pos hy,hxe,iN,dY] at hG;obtain ⟨u,hu⟩:∃u:ByteArray,wW f t (.int .i64 k) (.string nm)=.string u:=by
    exact zz224
   simp only [if_true,hu] at hG;obtain ⟨q1,rfl,h1⟩:=Fo.aP hG;obtain ⟨q2,rfl,h2⟩:=Fo.aP h1;obtain ⟨q3,rfl,h3⟩:=Fo.aP h2;obtain ⟨la',fu,lk',q4,rfl,s3,h4⟩:=Fo.aI h3;obtain ⟨na',bI,Bh,q5,rfl,s4,h5⟩:=Fo.aI h4;obtain ⟨dC,eY,xU,q6,rfl,s5,h6⟩:=Fo.aI h5;obtain ⟨dA,eZ,bG,q7,rfl,s6,h7⟩:=Fo.aI h6;obtain rfl:=Fo.cB h7;exact ⟨u,la',na',dC,dA,fu,bI,eY,eZ,rfl⟩
  .unfold nH at hG
   rw [if_neg hy,hxe] at hG;obtain ⟨la',na',dC,dA,fu,bI,eY,eZ,gv,-⟩:=xK f t hG;exact ⟨nm,la',na',dC,dA,fu,bI,eY,eZ,gv⟩
 have Oy:Hid (∀(fn:FuncId) (args:Array Value) (w1:World),Below A2.heap.size A2 w1->(Calls Tryz.prog fn args w1 λe W'=>∃g:Fo,e=.returned (.agg g.vals.toArray)∧g.aG (nH f t F)∧Own w1.heap.size W' g∧Below w1.heap.size w1 W')->Calls Tryz.prog fn args w1 λe w2=>∃(kD:ByteArray) (la' na' dC dA:Option Addr) (fu bI eY eZ:Nat),e=.returned (.agg #[.int .i64 k,.string kD,.bool mn,.slice la' ln fu,.slice na' nn bI,.slice dC kn eY,.slice dA an eZ])∧Hid (Bx w2 (s+1) [.int .i64 0,.string {data:=#[]},.bool false,.slice none 0 0,.slice none 0 0,.slice none 0 0,.slice none 0 0]∧w2.heap[s+1]? =some (.cells #[.int .i64 0,.string {data:=#[]},.bool false,.slice none 0 0,.slice none 0 0,.slice none 0 0,.slice none 0 0] 35)∧∀W',Kept (λc=>c≠s+1) w2 W'->∃g:Fo,Ending.returned (.agg #[.int .i64 k,.string kD,.bool mn,.slice la' ln fu,.slice na' nn bI,.slice dC kn eY,.slice dA an eZ])=.returned (.agg g.vals.toArray)∧g.aG (nH f t F)∧Own W.heap.size W' g∧Below W.heap.size W W')):=λfn args w1 b1 h=>by
  refine h.mono ?_;rintro e w2 ⟨G,rfl,g1,g2,g3⟩;obtain ⟨kD,la',na',dC,dA,fu,bI,eY,eZ,gv⟩:=hcell G g1;obtain ⟨p1,p2,p3⟩:=hfin w1 w2 G b1 g1 g2 g3;exact ⟨kD,la',na',dC,dA,fu,bI,eY,eZ,by rw [gv],p1,p2,λW' IB=>⟨G,by rw [gv],p3 W' IB⟩⟩
 have R5:Hid (¬(C.rE (C.di F)∧¬t=⟨#[]⟩)->∀w1,Below A2.heap.size A2 w1->Calls Tryz.prog 16 #[.agg F.vals.toArray] w1 λe W'=>∃g:Fo,e=.returned (.agg g.vals.toArray)∧g.aG (nH f t F)∧Own w1.heap.size W' g∧Below w1.heap.size w1 W'):=λhn w1 b1=>by
  refine (JJ F.size F w1.heap.size w1 (Nat.le_refl _) hf (Nat.le_refl _) hw (hsub w1 b1)).mono ?_;rintro e w2 ⟨G,rfl,g1,g2,g3⟩;exact ⟨G,rfl,by unfold nH;rw [if_neg hn];exact g1,g3,g2⟩
 have R6:Hid ((C.rE (C.di F)∧¬t=⟨#[]⟩)->∀w1,Below A2.heap.size A2 w1->Calls Tryz.prog 17 #[.agg F.vals.toArray,.string f,.string t] w1 λe W'=>∃g:Fo,e=.returned (.agg g.vals.toArray)∧g.aG (nH f t F)∧Own w1.heap.size W' g∧Below w1.heap.size w1 W'):=λhy w1 b1=>by
  refine (ZH w1 f t hf hw (hsub w1 b1) hy.1.2).mono ?_;rintro e w2 ⟨G,rfl,g1,g2,g3⟩;exact ⟨G,rfl,by unfold nH;rw [if_pos hy];exact g1,g2,g3⟩
 have HS:=hide hss;have HA1:=hide hA1;have HA2:=hide hA2;have xq:=hide x2;have c0:=x2.ae 0 _ (by rw [hv];rfl);have c1:=x2.ae 1 _ (by rw [hv];rfl);have c2:=x2.ae 2 _ (by rw [hv];rfl);have c3:=x2.ae 3 _ (by rw [hv];rfl);have c4:=x2.ae 4 _ (by rw [hv];rfl);have c5:=x2.ae 5 _ (by rw [hv];rfl);have c6:=x2.ae 6 _ (by rw [hv];rfl);rw [hv] at RZ R5 R6 xq ⊢;clear hss hA1 hA2 z1 z2 x1 y2 qj k12 x2 kW b2 hxe hv hs hw hf hs2 hsub hfin hcell;go_enter Tryz.func5,Tryz.ntmps5
 go_upto_region 1 with fail
 rw [HS.out,HA1.out,HA2.out]
 by_cases hy:C.rE (C.di F)∧¬t=⟨#[]⟩
 .have ZI:=hide (R6.out hy)
  have yJ:(t.toList==[])=false:=by
   exact zz172
  have IC:=hide hy.1;clear R5 R6 hy
  go_upto_region 3 with (go_at_call 15;refine RZ.out.mono ?_;rintro e w1 ⟨cd,rfl,hcd,b1⟩;obtain rfl:cd=0:=hcd.2 IC.out;have x3:=xq.out.below b1;have H17:=hide (Oy.out _ _ w1 b1 (ZI.out w1 b1));have d0:=x3.ae 0 _ rfl;have d1:=x3.ae 1 _ rfl;have d2:=x3.ae 2 _ rfl;have d3:=x3.ae 3 _ rfl;have d4:=x3.ae 4 _ rfl;have d5:=x3.ae 5 _ rfl;have d6:=x3.ae 6 _ rfl;clear hcd b1 x3)
  go_wp2_with (go_at_call 17;refine H17.out.mono ?_;rintro e w2 ⟨kD,la',na',dC,dA,fu,bI,eY,eZ,rfl,h5⟩;obtain ⟨yb,vL,hfin⟩:=h5.out;have Dq:=hide vL;have Dr:=hide hfin;have e0:=yb.ae 0 _ rfl;have e1:=yb.ae 1 _ rfl;have e2:=yb.ae 2 _ rfl;have e3:=yb.ae 3 _ rfl;have e4:=yb.ae 4 _ rfl;have e5:=yb.ae 5 _ rfl;have e6:=yb.ae 6 _ rfl;have f0:=yb.live 0;have f1:=yb.live 1;have f2:=yb.live 2;have f3:=yb.live 3;have f4:=yb.live 4;have f5:=yb.live 5;have f6:=yb.live 6;clear vL hfin yb h5);exact zz229
 .have TF:=hide (R5.out hy)
  have ZJ:=hide hy;clear R5 R6 hy
  go_upto_region 1 with fail
  by_cases hte:t=⟨#[]⟩
  .subst hte
   have yJ:((⟨#[]⟩:ByteArray).toList==[])=true:=by rw [ByteArray.toList_eq];rfl
   go_upto_region 2 with (go_at_call 15;refine RZ.out.mono ?_;rintro e w1 ⟨cd,rfl,hcd,b1⟩;have x3:=xq.out.below b1;have VJ:=hide (Oy.out _ _ w1 b1 (TF.out w1 b1));have d0:=x3.ae 0 _ rfl;have d1:=x3.ae 1 _ rfl;have d2:=x3.ae 2 _ rfl;have d3:=x3.ae 3 _ rfl;have d4:=x3.ae 4 _ rfl;have d5:=x3.ae 5 _ rfl;have d6:=x3.ae 6 _ rfl;clear hcd b1 x3)
   all_goals
    exact zz39
  .have hno:¬C.rE (C.di F):=λh=>ZJ.out ⟨h,hte⟩
   have HNK:=hide hno;clear hno ZJ
   go_upto_region 2 with (go_at_call 15;refine RZ.out.mono ?_;rintro e w1 ⟨cd,rfl,hcd,b1⟩;have hne:(cd !=0)=true:=(by rw [bne_iff_ne];exact λh=>HNK.out (hcd.1 h));have x3:=xq.out.below b1;have VJ:=hide (Oy.out _ _ w1 b1 (TF.out w1 b1));have d0:=x3.ae 0 _ rfl;have d1:=x3.ae 1 _ rfl;have d2:=x3.ae 2 _ rfl;have d3:=x3.ae 3 _ rfl;have d4:=x3.ae 4 _ rfl;have d5:=x3.ae 5 _ rfl;have d6:=x3.ae 6 _ rfl;clear hcd b1 x3)
   all_goals
    exact zz39
theorem U2:∀k,(E k).length<=9:=Pg
theorem Wp (f t:ByteArray):∀(m:Nat) (F:Fo) (n:Nat),F.size<=m->
  (Fit E F (rep (E 3) n)->∀x y,(dH f t x y F).ct=F.ct∧(dH f t x y F).bZ=F.bZ)∧
  (Fit E F (rep (E 2) n)->∀x,(jZ f t x F).ct=F.ct∧(jZ f t x F).bZ=F.bZ):=by
 intro m
 induction m with
 | zero=>
  intro F n h
  cases F with
  | nil=>exact ⟨λ_ x y=>by rw [dY];exact ⟨rfl,rfl⟩,λ_ x=>by rw [gI];exact ⟨rfl,rfl⟩⟩
  | v x r=>simp only [Fo.size] at h;omega
  | s a n c ks r=>simp only [Fo.size] at h;omega
 | succ m ih=>
  intro F n h
  cases n with
  | zero=>exact ⟨λhf x y=>by rw [ai hf,dY];exact ⟨rfl,rfl⟩,λhf x=>by rw [ai hf,gI];exact ⟨rfl,rfl⟩⟩
  | succ n=>
   refine ⟨λhf=>?_,λhf=>?_⟩
   .obtain ⟨x,q,rfl,hx,hq,hl⟩:=Fit.split (fs:=E 3) (gs:=rep (E 3) n) hf
    obtain ⟨k,nm,mn,la,ln,lc,lk,na,nn,nc,nk,ka,kn,kc,kk,aa,an,ac,ak,rfl,-,-,h3,h4,h5,h6⟩:=ag hx;simp only [Fo.app,Fo.size] at h;have j1:=(ih kk kn (by omega)).1 h5;have j2:=(ih ak an (by omega)).2 h6;have j3:=(ih q n (by omega)).1 hq;simp only [Fo.app];intro x y;rw [iN];simp only [Fo.ct,Fo.bZ,(j1 _ _).1,(j2 _).1,(j3 _ _).1,(j3 _ _).2];exact ⟨trivial,trivial⟩
   .obtain ⟨x,q,rfl,hx,hq,hl⟩:=Fit.split (fs:=E 2) (gs:=rep (E 2) n) hf
    obtain ⟨au,ca,cn,cc,ck,y,rfl,-,-,hy⟩:=aK hx;obtain ⟨k,nm,mn,la,ln,lc,lk,na,nn,nc,nk,ka,kn,kc,kk,aa,an,ac,ak,rfl,-,-,h3,h4,h5,h6⟩:=ag hy;simp only [Fo.app,Fo.size] at h;have j1:=(ih kk kn (by omega)).1 h5;have j2:=(ih ak an (by omega)).2 h6;have j3:=(ih q n (by omega)).2 hq;simp only [Fo.app];intro x;rw [lU];simp only [Fo.ct,Fo.bZ,(j1 _ _).1,(j2 _).1,(j3 _).1,(j3 _).2];exact ⟨trivial,trivial⟩
theorem FP (f t nm:ByteArray) (k:Int) (ht:t.size<=maxLen) (hn:nm.size<=maxLen) (x:Bool):∃u:ByteArray,(if x=true then wW f t (.int .i64 k) (.string nm) else .string nm)=.string u∧u.size<=maxLen:=by
 cases x with
 | false=>exact ⟨nm,rfl,hn⟩
 | true=>
  simp only [if_true];unfold wW
  split
  .rename_i h
   injection h with h;subst h;refine ⟨_,rfl,?_⟩;unfold Cu
   split
   .exact ht
   .exact hn
  .exact ⟨nm,rfl,hn⟩
theorem Sv (f t:ByteArray) (ht:t.size<=maxLen):∀(m:Nat) (F:Fo) (n:Nat),F.size<=m->
  (Fit E F (rep (E 3) n)->∀x y,Fit E (dH f t x y F) (rep (E 3) n))∧
  (Fit E F (rep (E 2) n)->∀x,Fit E (jZ f t x F) (rep (E 2) n)):=by
 intro m
 induction m with
 | zero=>
  intro F n h
  cases F with
  | nil=>exact ⟨λhf x y=>by rw [dY];exact hf,λhf x=>by rw [gI];exact hf⟩
  | v x r=>simp only [Fo.size] at h;omega
  | s a n c ks r=>simp only [Fo.size] at h;omega
 | succ m ih=>
  intro F n h
  cases n with
  | zero=>exact ⟨λhf x y=>by rw [ai hf,dY];trivial,λhf x=>by rw [ai hf,gI];trivial⟩
  | succ n=>
   refine ⟨λhf=>?_,λhf=>?_⟩
   .obtain ⟨x,q,rfl,hx,hq,hl⟩:=Fit.split (fs:=E 3) (gs:=rep (E 3) n) hf
    obtain ⟨k,nm,mn,la,ln,lc,lk,na,nn,nc,nk,ka,kn,kc,kk,aa,an,ac,ak,rfl,hk,hnm,h3,h4,h5,h6⟩:=ag hx;simp only [Fo.app,Fo.size] at h;have j1:=(ih kk kn (by omega)).1 h5;have j2:=(ih ak an (by omega)).2 h6;have j3:=(ih q n (by omega)).1 hq;simp only [Fo.app];intro x y;obtain ⟨u,hu,Wq⟩:=FP f t nm k ht hnm x;rw [iN,hu];exact ⟨hk,Wq,h3,h4,j1 _ _,j2 _,j3 _ _⟩
   .obtain ⟨x,q,rfl,hx,hq,hl⟩:=Fit.split (fs:=E 2) (gs:=rep (E 2) n) hf
    obtain ⟨au,ca,cn,cc,ck,y,rfl,hco,hck,hy⟩:=aK hx;obtain ⟨k,nm,mn,la,ln,lc,lk,na,nn,nc,nk,ka,kn,kc,kk,aa,an,ac,ak,rfl,hk,hnm,h3,h4,h5,h6⟩:=ag hy;simp only [Fo.app,Fo.size] at h;have j1:=(ih kk kn (by omega)).1 h5;have j2:=(ih ak an (by omega)).2 h6;have j3:=(ih q n (by omega)).2 hq;simp only [Fo.app];intro x;obtain ⟨u,hu,Wq⟩:=FP f t nm k ht hnm (x && !(fV f (fe ck)));rw [lU,hu];exact ⟨hco,hck,hk,Wq,h3,h4,j1 _ _,j2 _,j3 _⟩
open Classical in
noncomputable def xY (f t:ByteArray) (F:Fo):Fo:=if t.size<=1048576 then nH f t F else F
theorem Nr (f t:ByteArray) {F:Fo} (hf:Fit E F (E 3)):Fit E (xY f t F) (E 3):=by
 unfold xY
 split
 .rename_i h
  unfold nH
  split
  .exact (Sv f t (by unfold maxLen;omega) _ F 1 (Nat.le_refl _)).1 (C.qd hf) true true
  .exact hf
 .exact hf
theorem Ns (f t:ByteArray) {F:Fo} (hf:Fit E F (E 3)) (hw:F.wt<=1048576):(xY f t F).bZ<=9437184:=by
 have h0:=(Fit.bounds (M:=9) U2 F _ hf).2.1;unfold xY
 split
 .unfold nH
  split
  .rw [((Wp f t _ F 1 (Nat.le_refl _)).1 (C.qd hf) true true).2];omega
  .omega
 .omega
theorem Ev (f t:ByteArray) {F G:Fo} (hf:Fit E F (E 3)) (h:G.aG F):(xY f t G).aG (xY f t F):=by
 unfold xY
 split
 .unfold nH
  rw [((C.DC F.size).1 F G 1 (Nat.le_refl _) (C.qd hf)).2 h]
  split
  .exact yM f t hf h
  .exact h
 .exact h
theorem Ye (G:Fo) (f t:ByteArray) (n0:Nat) (V:World) (hf:Fit E G (E 3)) (hn:n0<=V.heap.size) (hw:G.wt<=1048576) (_hf:f.size<=1048576) (ht:t.size<=1048576) (hs:G.av V (λc=>c < n0)):
  Calls Tryz.prog 5 #[.agg G.vals.toArray,.string f,.string t] V λe w'=>∃R:Fo,e=.returned (.agg R.vals.toArray)∧R.aG (xY f t G)∧Below V.heap.size V w'∧R.av w' (λc=>c < w'.heap.size):=by
 refine (Lg V f t hf hw (hs.mono (λc hc=>Nat.lt_of_lt_of_le hc hn))).mono ?_;rintro e w' ⟨R,rfl,r1,r2,r3⟩;exact ⟨R,rfl,by unfold xY;rw [if_pos ht];exact r1,r3,r2.subs.mono (λc hc=>hc.2)⟩
theorem Yg (G:Fo) (f t:ByteArray) (lo:Nat) (V:World) (hf:Fit E G (E 3)) (hw:G.wt<=1048576) (_hf:f.size<=1048576) (ht:t.size<=1048576) (ho:Own lo V G):
  Calls Tryz.prog 7 #[.agg G.vals.toArray,.string f,.string t] V λe w'=>∃R:Fo,e=.returned (.agg R.vals.toArray)∧R.aG (xY f t G)∧Below V.heap.size V w'∧Own V.heap.size w' R:=by
 refine (Lx V f t (by omega) hf hw ho).mono ?_;rintro e w' ⟨R,rfl,r1,r2,r3⟩;exact ⟨R,rfl,by unfold xY;rw [if_pos ht];exact r1,r3,r2⟩
end Go.Proofs.YthfnobboalhihaaGreat
