import Derived.Test.YthfnobboalhihaaGreatWm
import Derived.Test.YthfnobboalhihaaGreatQk
import Derived.Test.YthfnobboalhihaaGreatXt
import Derived.Laws.Rows
set_option maxHeartbeats 8000000
set_option maxRecDepth 100000
namespace Go.Proofs.YthfnobboalhihaaGreat
open Go.RowKit Go.Joins
theorem zz11 {P:Prop} (h:P:=by
 refine hK.out _ _ dK (λhHeld=>?_);clear hK K;(try simp only [Act.put,List.setIfInBounds_toArray,List.set_cons_zero,List.set_cons_succ]);refine rk 27 (λK hK=>?_);go_simp;refine C5.out.mono ?_;rintro e V5 ⟨tN,xG,rfl,oF,⟨p1,p2⟩,qg,p3⟩;refine hK.out _ _ oF (λhHeld=>?_);clear hK K;(try simp only [Act.put,List.setIfInBounds_toArray,List.set_cons_zero,List.set_cons_succ]);refine tn 28 ?_;refine tn 29 ?_;refine rk 30 (λK hK=>?_);go_simp;refine hK.out _ _ qg (λhHeld=>?_);clear hK K;(try simp only [Act.put,List.setIfInBounds_toArray,List.set_cons_zero,List.set_cons_succ]);refine wpAnyH_done (by kernel_rfl) ?_ _;go_wp2_with fail;exact bodyPost_end (results_none rfl _ _ _) rfl ⟨rfl,Xb.out _ _ _ p3⟩):P:=h
theorem zz12 {P:Prop} (h:P:=by
 refine hK.out _ _ dK (λhHeld=>?_);clear hK K;(try simp only [Act.put,List.setIfInBounds_toArray,List.set_cons_zero,List.set_cons_succ]);refine rk 28 (λK hK=>?_);go_simp;refine C5.out.mono ?_;rintro e V4 ⟨qK,uQ,rfl,oF,⟨p1,p2⟩,qg,p3⟩;refine hK.out _ _ oF (λhHeld=>?_);clear hK K;(try simp only [Act.put,List.setIfInBounds_toArray,List.set_cons_zero,List.set_cons_succ]);refine tn 29 ?_;refine tn 30 ?_;refine rk 31 (λK hK=>?_);go_simp;refine hK.out _ _ qg (λhHeld=>?_);clear hK K;(try simp only [Act.put,List.setIfInBounds_toArray,List.set_cons_zero,List.set_cons_succ]);refine wpAnyH_done (by kernel_rfl) ?_ _;go_wp2_with fail;go_meet
 case rel=>exact ⟨rfl,HR4.out _ _ _ p3⟩):P:=h
theorem zz91 {P:Prop} (h:P:=by
 go_simp;refine hK.out _ _ hHeld (λhHeld=>?_);clear hK K;(try simp only [Act.put,List.setIfInBounds_toArray,List.set_cons_zero,List.set_cons_succ]);refine rk 23 (λK hK=>?_);go_simp;refine C1.out.mono ?_;rintro e W4 ⟨i4,rfl,dK,f5,C5⟩;exact zz12):P:=h
theorem zz92 {P:Prop} (h:P:=by
 go_simp;refine hK.out _ _ hHeld (λhHeld=>?_);clear hK K;(try simp only [Act.put,List.setIfInBounds_toArray,List.set_cons_zero,List.set_cons_succ]);refine rk 23 (λK hK=>?_);go_simp;refine C1.out.mono ?_;rintro e W5 ⟨i5,rfl,dK,f5,C5⟩;exact zz11):P:=h
def UL (q:Cq) (B0 V:World) (S:Nat->Prop) (b o:Nat) (sv0:Value) (k:Int) (nm:ByteArray) (mn:Bool) (ln nn kn an:Nat) (lk nk kk ak:Fo) (n:Nat) (Q:List Nd) (X:World):Prop:=
 ∃(Vb:World) (tb nx:Nat) (la na ka aa:Option Addr) (lc nc kc ac:Nat) (bG:Fo) (sv':Value) (z1 z2 z3 z4 z5:Nat),Kept (λ_=>True) V Vb∧PC q B0 Vb S tb nx b sv0∧
  PB q B0 Vb S tb nx b o sv0 (L7 k nm mn la ln lc na nn nc ka kn kc aa an ac) (n+1+nn+kE ak) ((Q++eP ka kk)++fC aa bG) sv' X∧(Vb.heap.size<=z1∧z1<=z2∧z2<=z3∧z3<=z4∧z4<=z5∧z5<=X.heap.size)∧
  aY X (Tw z1 z2 sv') na nn nc nk.vals∧aY X (Tw z2 z3 sv') la ln lc lk.vals∧aY X (Tw z3 z4 sv') ka kn kc kk.vals∧
  bG.aG ak∧(aJ 0 0 bG).map Nd.x=(aJ 0 0 ak).map Nd.x∧(∀d∈fC aa bG,bD X d.x.vals d.b d.o)∧aY X (λc=>Tw z4 z5 sv' c∧dF X z4 c 0 bG) aa an ac []∧(∀c∈iq bG,Tw z4 z5 sv' c)∧(blk aa an++iq bG).Nodup
def R4P (q:Cq) (B0 Vb:World) (S:Nat->Prop) (tb b o:Nat) (sv:Value) (k:Int) (nm:ByteArray) (mn:Bool) (ln nn kn an:Nat) (lk nk kk:Fo) (n:Nat) (Q:List Nd) (aa:Option Addr) (ac:Nat) (na:Option Addr) (nc:Nat) (la:Option Addr) (lc z1 z2 z3:Nat) (X:World):Prop:=
 ∃(ka:Option Addr) (kc:Nat) (sv':Value),PB q B0 Vb S tb (tb+1) b o sv (L7 k nm mn la ln lc na nn nc ka kn kc aa an ac) (n+1+nn) (Q++eP ka kk) sv' X∧aY X (Tw z1 z2 sv') na nn nc nk.vals∧aY X (Tw z2 z3 sv') la ln lc lk.vals∧aY X (Tw z3 X.heap.size sv') ka kn kc kk.vals∧z3<=X.heap.size
theorem vg {q:Cq} {B0 V:World} {S:Nat->Prop} {P:Fo->Prop} {n:Nat} {Q:List Nd} {sv:Value} (gd:Gd q B0 P) (z:Sz q B0) (h:CS q B0 V n Q sv) (hS:∀c,S c->c < V.heap.size∧(c=q.c0∨B0.heap.size<=c)∧sv.ownBlock≠some c) (hfz:∀c j,S c->V.frozen? ⟨c,j,none⟩=false) {b o:Nat} (hb:S b)
  {k:Int} {nm:ByteArray} {mn:Bool} {la na ka aa:Option Addr} {ln lc nn nc kn kc an ac:Nat} {lk nk kk ak:Fo} (hP:P (.v (.int .i64 k) (.v (.string nm) (.v (.bool mn) (.s la ln lc lk (.s na nn nc nk (.s ka kn kc kk (.s aa an ac ak .nil)))))))) (hc:bD V (L7 k nm mn la ln lc na nn nc ka kn kc aa an ac) b o) (hn:n+2100000 < 10000000) (hQ:Q.length+2100000 < 10000000):
  Calls Tryz.prog 54 #[.pointer (some ⟨q.CB,0,none⟩),.agg #[.pointer (some ⟨b,o,none⟩),.bool true]] V λe V'=>e=.returned (.tuple #[])∧Hid (UL q B0 V S b o sv k nm mn ln nn kn an lk nk kk ak n Q V'):=by
 obtain ⟨x,hx⟩:∃x,Fo.v (.int .i64 k) (.v (.string nm) (.v (.bool mn) (.s la ln lc lk (.s na nn nc nk (.s ka kn kc kk (.s aa an ac ak .nil))))))=x:=⟨_,rfl⟩
 have hfit:=gd.fit _ hP
 have hsub:=gd.subs _ hP
 have hwt:=gd.wt _ hP
 obtain ⟨k',kD,GN,la',GQ,fu,lk',na',GR,bI,Bh,dC,CG,eY,xU,dA,GU,eZ,bG,he,-,-,f3,f4,f5,f6⟩:=ag hfit
 cases he
 obtain ⟨s3,s4,s5,s6,-⟩:=hsub
 simp only [Fo.wt,bU] at hwt
 obtain ⟨Vb,GV⟩:∃Vb,(V.alloc (.cells #[.pointer (some ⟨q.CB,0,none⟩)] 152)).alloc (.cells #[.pointer (some ⟨b,o,none⟩),.bool true] 104)=Vb:=⟨_,rfl⟩
 have kb:Kept (λ_=>True) V Vb:=by rw [<- GV];exact (Kept.alloc _ _ _).trans (Kept.alloc _ _ _)
 have zb:Vb.heap.size=V.heap.size+2:=by rw [<- GV];simp
 have xt:Bx Vb V.heap.size [.pointer (some ⟨q.CB,0,none⟩)]:=by rw [<- GV];exact (Bx.new _ _ _).kept (Kept.alloc (λ_=>True) _ _) trivial
 have xn:Bx Vb (V.heap.size+1) [.pointer (some ⟨b,o,none⟩),.bool true]:=by
  rw [<- GV]
  have:=Bx.new (V.alloc (.cells #[.pointer (some ⟨q.CB,0,none⟩)] 152)) [.pointer (some ⟨b,o,none⟩),.bool true] 104
  rwa [World.size_alloc] at this
 have hhi:=h.hi
 have pc:PC q B0 Vb S V.heap.size (V.heap.size+1) b sv:=⟨hb,λc hc=>by
  obtain ⟨y1,y2,y3⟩:=hS c hc
  exact ⟨by omega,y2,y3,by omega,by omega⟩,⟨⟨h.vw,by omega⟩,⟨by have:=h.vw;omega,by omega⟩,λe=>by have:=(hhi _ e).2;omega,λe=>by have:=(hhi _ e).2;omega⟩,by have:=h.vw;omega,h.lt⟩
 have pb0:PB q B0 Vb S V.heap.size (V.heap.size+1) b o sv (L7 k nm mn la ln lc na nn nc ka kn kc aa an ac) n Q sv Vb:=⟨h.keep kb,⟨xt.ae 0 _ rfl,xn.ae 0 _ rfl,xn.ae 1 _ rfl,(h.keep kb).cG⟩,hc.kept kb (hS b hb).1 trivial,λ_ _ _ _=>rfl,λc j hc=>(kb.frozen (p:=⟨c,j,none⟩) (hS c hc).1 trivial).trans (hfz c j hc),Nw.refl _ _,Nat.le_refl _⟩
 obtain ⟨tb,htb⟩:∃t,V.heap.size=t:=⟨_,rfl⟩
 have qZ:=hide pb0
 have kZ:=hide pc
 have O5:=hide kb
 have RD:=hide gd
 have HZ:=hide z
 have vH:=hide GV
 have HF:=hide (And.intro f3 (And.intro f4 (And.intro f5 f6)))
 have HS:=hide (And.intro s3 (And.intro s4 (And.intro s5 s6)))
 have HW:Hid (nm.size+(ln+lk.wt+(nn+nk.wt+(kn+kk.wt+(an+ak.wt))))<=1048576):=by show _<=_;omega
 have HPX:=hide hP
 have HN:=hide (And.intro hn hQ)
 have hnd:∀W:World,Kept (λ_=>True) W W.drew:=λW=>Kept.drew _ _
 have vK:=hide hnd
 clear hx hfit hwt f3 f4 f5 f6 s3 s4 s5 s6 GV kb zb xt xn hhi pc pb0 h hS hfz hb hP hc hn hQ gd z hnd
 rw [htb] at qZ kZ
 have RA:=hide htb
 go_enter Tryz.func54,Tryz.ntmps54
 go_upto_region 1 with fail
 rw [vH.out]
 clear htb vH
 have gN:=hide (qZ.out.keep kZ.out (vK.out Vb))
 have eD:=gN.out.bo
 have e1:Vb.drew.cell? ⟨b,o+1,none⟩=some (.string nm):=gN.out.ce 1 _ rfl
 have C1:=hide (st1 gN.out kZ.out (by have:=HN.out.1;omega) (by have:=HW.out;omega))
 refine wp_region_held_drew (S:=λW=>W.cell? ⟨tb,0,none⟩=some (.pointer (some ⟨q.CB,0,none⟩))∧W.cell? ⟨tb+1,0,none⟩=some (.pointer (some ⟨b,o,none⟩))∧W.cell? ⟨tb+1,1,none⟩=some (.bool true)∧W.cell? ⟨q.CB,0,none⟩=some (.pointer (some ⟨q.G,0,none⟩))) (by kernel_rfl) eD (λhHeld=>?_)
 refine tn 0 ?_
 refine tn 1 ?_
 refine tn 2 ?_
 refine tn 3 ?_
 refine tn 4 ?_
 refine tn 5 ?_
 refine tn 6 ?_
 refine rk 7 (λK hK=>?_)
 go_simp
 refine hK.out _ _ hHeld (λhHeld=>?_)
 clear hK K
 try simp only [Act.put,List.setIfInBounds_toArray,List.set_cons_zero,List.set_cons_succ]
 refine rk 8 (λK hK=>?_)
 go_simp
 refine C1.out.mono ?_
 rintro e V1 ⟨rfl,dK,⟨p1,p2⟩,qg,p3⟩
 refine hK.out _ _ dK (λhHeld=>?_)
 clear hK K
 try simp only [Act.put,List.setIfInBounds_toArray,List.set_cons_zero,List.set_cons_succ]
 refine tn 9 ?_
 refine tn 10 ?_
 refine rk 11 (λK hK=>?_)
 go_simp
 refine hK.out _ _ qg (λhHeld=>?_)
 clear hK K
 try simp only [Act.put,List.setIfInBounds_toArray,List.set_cons_zero,List.set_cons_succ]
 refine wpAnyH_done (by kernel_rfl) ?_ _
 obtain ⟨X1,hX1⟩:∃X,V1.setCell ⟨b,o+1,none⟩ (.string nm)=X:=⟨_,rfl⟩
 rw [hX1] at p3 ⊢
 have P3:=hide p3.out.1
 have HZ1:Hid (Vb.heap.size<=X1.heap.size):=P3.out.zz
 clear eD e1 C1 gN dK p1 p2 qg p3 hX1 hHeld
 go_upto_region 2 with fail
 have eO:=hide (P3.out.keep kZ.out (vK.out X1))
 have eD:=eO.out.bo
 have e1:X1.drew.cell? ⟨b,o+4,none⟩=some (.slice na nn nc):=eO.out.ce 4 _ rfl
 have C1:=hide (st2 eO.out kZ.out (by have:=HN.out.1;have:=HW.out;omega) HF.out.2.1 HS.out.2.1 (by have:=HW.out;omega))
 refine wp_region_held_drew (S:=λW=>W.cell? ⟨tb,0,none⟩=some (.pointer (some ⟨q.CB,0,none⟩))∧W.cell? ⟨tb+1,0,none⟩=some (.pointer (some ⟨b,o,none⟩))∧W.cell? ⟨tb+1,1,none⟩=some (.bool true)∧W.cell? ⟨q.CB,0,none⟩=some (.pointer (some ⟨q.G,0,none⟩))) (by kernel_rfl) eD (λhHeld=>?_)
 refine tn 0 ?_
 refine tn 1 ?_
 refine tn 2 ?_
 refine tn 3 ?_
 refine tn 4 ?_
 refine tn 5 ?_
 refine tn 6 ?_
 refine tn 8 ?_
 refine tn 9 ?_
 refine rk 7 (λK hK=>?_)
 go_simp
 refine hK.out _ _ hHeld (λhHeld=>?_)
 clear hK K
 try simp only [Act.put,List.setIfInBounds_toArray,List.set_cons_zero,List.set_cons_succ]
 refine rk 10 (λK hK=>?_)
 go_simp
 refine C1.out.mono ?_
 rintro e V2 ⟨wF,Bj,rfl,dK,⟨p1,p2⟩,qg,p3⟩
 refine hK.out _ _ dK (λhHeld=>?_)
 clear hK K
 try simp only [Act.put,List.setIfInBounds_toArray,List.set_cons_zero,List.set_cons_succ]
 refine tn 11 ?_
 refine tn 12 ?_
 refine rk 13 (λK hK=>?_)
 go_simp
 refine hK.out _ _ qg (λhHeld=>?_)
 clear hK K
 try simp only [Act.put,List.setIfInBounds_toArray,List.set_cons_zero,List.set_cons_succ]
 refine wpAnyH_done (by kernel_rfl) ?_ _
 obtain ⟨X2,hX2⟩:∃X,V2.setCell ⟨b,o+4,none⟩ (.slice wF nn Bj)=X:=⟨_,rfl⟩
 have hz2:X2.heap.size=V2.heap.size:=by rw [<- hX2];simp [World.setCell]
 rw [hX2] at p3 ⊢
 have P4:=hide p3.out.1
 have R2:Hid (aY X2 (Tw X1.heap.size X2.heap.size sv) wF nn Bj nk.vals∧X1.heap.size<=X2.heap.size):=by rw [hz2];exact p3.out.2
 clear eD e1 C1 eO dK p1 p2 qg p3 hX2 hz2 hHeld P3
 go_upto_region 3 with fail
 have jh:=hide (P4.out.keep kZ.out (vK.out X2))
 have eD:=jh.out.bo
 have e1:X2.drew.cell? ⟨b,o+2+1,none⟩=some (.slice la ln lc):=jh.out.ce 3 _ rfl
 have C1:=hide (st3 jh.out kZ.out (.pointer (some ⟨q.CB,5,none⟩)) HF.out.1 HS.out.1 (by have:=HW.out;omega))
 refine wp_region_held_drew (S:=λW=>W.cell? ⟨tb,0,none⟩=some (.pointer (some ⟨q.CB,0,none⟩))∧W.cell? ⟨tb+1,0,none⟩=some (.pointer (some ⟨b,o,none⟩))∧W.cell? ⟨tb+1,1,none⟩=some (.bool true)∧W.cell? ⟨q.CB,0,none⟩=some (.pointer (some ⟨q.G,0,none⟩))) (by kernel_rfl) eD (λhHeld=>?_)
 refine tn 0 ?_
 refine tn 1 ?_
 refine tn 2 ?_
 refine tn 3 ?_
 refine tn 4 ?_
 refine tn 5 ?_
 refine tn 6 ?_
 refine tn 7 ?_
 refine tn 8 ?_
 refine tn 9 ?_
 refine tn 10 ?_
 refine tn 12 ?_
 refine tn 13 ?_
 refine rk 11 (λK hK=>?_)
 go_simp
 refine hK.out _ _ hHeld (λhHeld=>?_)
 clear hK K
 try simp only [Act.put,List.setIfInBounds_toArray,List.set_cons_zero,List.set_cons_succ]
 refine rk 14 (λK hK=>?_)
 go_simp
 refine C1.out.mono ?_
 rintro e V3 ⟨Gg,Gh,rfl,dK,⟨p1,p2⟩,qg,p3⟩
 refine hK.out _ _ dK (λhHeld=>?_)
 clear hK K
 try simp only [Act.put,List.setIfInBounds_toArray,List.set_cons_zero,List.set_cons_succ]
 refine tn 15 ?_
 refine tn 16 ?_
 refine tn 17 ?_
 refine tn 18 ?_
 refine tn 19 ?_
 refine tn 20 ?_
 refine rk 21 (λK hK=>?_)
 go_simp
 refine hK.out _ _ qg (λhHeld=>?_)
 clear hK K
 try simp only [Act.put,List.setIfInBounds_toArray,List.set_cons_zero,List.set_cons_succ]
 refine wpAnyH_done (by kernel_rfl) ?_ _
 obtain ⟨X3,Qo⟩:∃X,V3.setCell ⟨b,o+2+1,none⟩ (.slice Gg ln Gh)=X:=⟨_,rfl⟩
 have hz3:X3.heap.size=V3.heap.size:=by rw [<- Qo];simp [World.setCell]
 have R3:Hid (aY X3 (Tw X1.heap.size X2.heap.size sv) wF nn Bj nk.vals∧aY X3 (Tw X2.heap.size X3.heap.size sv) Gg ln Gh lk.vals∧Vb.heap.size<=X1.heap.size∧X1.heap.size<=X2.heap.size∧X2.heap.size<=X3.heap.size):=by
  obtain ⟨-,q1,q2⟩:=p3.out
  rw [Qo,<- hz3] at q1
  have q3:=q2.size
  refine ⟨?_,q1,HZ1.out,R2.out.2,by rw [hz3];exact q3⟩
  rw [<- Qo]
  exact ((R2.out.1.kc kZ.out HZ1.out (Nat.le_refl _) (Kc.of ((vK.out X2).trans q2)) (Nw.refl _ _)).st kZ.out HZ1.out q3)
 rw [Qo] at p3 ⊢
 have P5:=hide p3.out.1
 clear eD e1 C1 jh dK p1 p2 qg p3 Qo hz3 hHeld P4 R2 HZ1
 go_upto_region 4 with fail
 have mX:=hide (P5.out.keep kZ.out (vK.out X3))
 have eD:=mX.out.bo
 have e1:X3.drew.cell? ⟨b,o+5,none⟩=some (.slice ka kn kc):=mX.out.ce 5 _ rfl
 have C1:=hide (st4 RD.out HZ.out mX.out kZ.out HPX.out rfl rfl (.pointer (some ⟨q.G,0,none⟩)) HF.out.2.2.1 HS.out.2.2.1 (by have:=HW.out;omega) (by have:=HN.out.2;have:=HW.out;omega))
 have HR4:Hid (∀(V4:World) (qK:Option Addr) (uQ:Nat),Hid (∃sv',PB q B0 Vb S tb (tb+1) b o sv (L7 k nm mn Gg ln Gh wF nn Bj qK kn uQ aa an ac) (n+1+nn) (Q++eP qK kk) sv' (V4.setCell ⟨b,o+5,none⟩ (.slice qK kn uQ))∧aY (V4.setCell ⟨b,o+5,none⟩ (.slice qK kn uQ)) (Tw X3.drew.heap.size V4.heap.size sv') qK kn uQ kk.vals∧Kc q sv X3.drew V4∧Nw sv sv' X3.drew)->R4P q B0 Vb S tb b o sv k nm mn ln nn kn an lk nk kk n Q aa ac wF Bj Gg Gh X1.heap.size X2.heap.size X3.heap.size (V4.setCell ⟨b,o+5,none⟩ (.slice qK kn uQ))):=λV4 qK uQ hh=>by
  obtain ⟨sv',h1,h2,h3,h4⟩:=hh.out
  obtain ⟨r1,r2,r3,r4,r5⟩:=R3.out
  have hs3:X3.drew.heap.size=X3.heap.size:=rfl
  have Le:(V4.setCell ⟨b,o+5,none⟩ (.slice qK kn uQ)).heap.size=V4.heap.size:=by simp [World.setCell]
  have h3s:=h3.size
  have kd:=vK.out X3
  refine ⟨qK,uQ,sv',h1,?_,?_,by rw [Le];exact h2,by rw [Le];omega⟩
  .exact ((((r1.kc kZ.out r3 r5 (Kc.of kd) (Nw.refl _ _)).kc kZ.out r3 (by omega) h3 h4)).st kZ.out r3 (by omega))
  .exact ((((r2.kc kZ.out (by omega) (Nat.le_refl _) (Kc.of kd) (Nw.refl _ _)).kc kZ.out (by omega) (by omega) h3 h4)).st kZ.out (by omega) (by omega))
 go_cut [3] (λs wx=>s=.pointer (some ⟨tb+1,0,none⟩)∧Hid (R4P q B0 Vb S tb b o sv k nm mn ln nn kn an lk nk kk n Q aa ac wF Bj Gg Gh X1.heap.size X2.heap.size X3.heap.size wx))
 case first=>
  refine wp_region_held_drew (S:=λW=>W.cell? ⟨tb,0,none⟩=some (.pointer (some ⟨q.CB,0,none⟩))∧W.cell? ⟨tb+1,0,none⟩=some (.pointer (some ⟨b,o,none⟩))∧W.cell? ⟨tb+1,1,none⟩=some (.bool true)∧W.cell? ⟨q.CB,0,none⟩=some (.pointer (some ⟨q.G,0,none⟩))) (by kernel_rfl) eD (λhHeld=>?_)
  refine tn 0 ?_
  refine tn 1 ?_
  refine tn 2 ?_
  refine tn 3 ?_
  refine tn 4 ?_
  refine tn 5 ?_
  refine tn 6 ?_
  refine tn 7 ?_
  refine tn 8 ?_
  refine tn 9 ?_
  refine tn 10 ?_
  refine tn 11 ?_
  refine tn 12 ?_
  refine tn 14 ?_
  refine tn 15 ?_
  refine tn 16 ?_
  refine tn 17 ?_
  refine tn 18 ?_
  refine tn 19 ?_
  refine tn 20 ?_
  refine tn 21 ?_
  refine tn 24 ?_
  refine tn 25 ?_
  refine tn 26 ?_
  refine tn 27 ?_
  refine wpAnyH_ready (rs:=[13,22]) (by kernel_rfl) (by simp) ?_
  refine AllReadyH.cons (o:={dst:=some 62,op:=Op.load 32 (Operand.tmp 61),type:=32,pos:= "l13_core.go:871",after:=#[{on:=12,ground:=Ground.data}],guard:=none}) rfl (λK hK=>?_) (AllReadyH.cons (o:={dst:=some 71,op:=Op.load 32 (Operand.tmp 70),type:=32,pos:= "l13_core.go:871",after:=#[{on:=21,ground:=Ground.data}],guard:=none}) rfl (λK hK=>?_) (AllReadyH.nil))
  .
   go_simp
   refine hK.out _ _ hHeld (λhHeld=>?_)
   clear hK K
   try simp only [Act.put,List.setIfInBounds_toArray,List.set_cons_zero,List.set_cons_succ]
   refine rk 22 (λK hK=>?_)
   exact zz91
  .
   go_simp
   refine hK.out _ _ hHeld (λhHeld=>?_)
   clear hK K
   try simp only [Act.put,List.setIfInBounds_toArray,List.set_cons_zero,List.set_cons_succ]
   refine wpAnyH_ready (rs:=[13,23]) (by kernel_rfl) (by simp) ?_
   refine AllReadyH.cons (o:={dst:=some 62,op:=Op.load 32 (Operand.tmp 61),type:=32,pos:= "l13_core.go:871",after:=#[{on:=12,ground:=Ground.data}],guard:=none}) rfl (λK hK=>?_) (AllReadyH.cons (o:={dst:=some 72,op:=Op.call {callee:=Callee.value (Operand.func 51),args:=#[Operand.tmp 66,Operand.tmp 71],argTypes:=#[82,32]},type:=3,pos:= "l13_core.go:871",after:=#[{on:=17,ground:=Ground.data},{on:=22,ground:=Ground.data}],guard:=none}) rfl (λK hK=>?_) (AllReadyH.nil))
   .
    exact zz91
   .
    go_simp
    refine C1.out.mono ?_
    rintro e W4 ⟨i4,rfl,dK,f5,C5⟩
    refine hK.out _ _ dK (λhHeld=>?_)
    clear hK K
    try simp only [Act.put,List.setIfInBounds_toArray,List.set_cons_zero,List.set_cons_succ]
    refine rk 13 (λK hK=>?_)
    go_simp
    exact zz12
 case rest=>
 obtain ⟨rfl,hcb⟩:=hcut
 rename World=>X4
 obtain ⟨qK,uQ,Qp,h1,h2,h3,h4,h5⟩:=hcb.out
 have P6:=hide h1
 have R4:Hid (aY X4 (Tw X1.heap.size X2.heap.size Qp) wF nn Bj nk.vals∧aY X4 (Tw X2.heap.size X3.heap.size Qp) Gg ln Gh lk.vals∧aY X4 (Tw X3.heap.size X4.heap.size Qp) qK kn uQ kk.vals∧Vb.heap.size<=X1.heap.size∧X1.heap.size<=X2.heap.size∧X2.heap.size<=X3.heap.size∧X3.heap.size<=X4.heap.size):=⟨h2,h3,h4,R3.out.2.2.1,R3.out.2.2.2.1,R3.out.2.2.2.2,h5⟩
 clear hcb h1 h2 h3 h4 h5 eD e1 C1 mX HR4 P5 R3
 go_upto_region 5 with fail
 have ig:=hide (P6.out.keep kZ.out (vK.out X4))
 have eD:=ig.out.bo
 have e1:X4.drew.cell? ⟨b,o+6,none⟩=some (.slice aa an ac):=ig.out.ce 6 _ rfl
 have hlK:(eP qK kk).length<=kn:=by
  cases qK with
  | none=>simp [eP]
  | some p=>unfold eP;rw [(yt p.block kn p.off kk HF.out.2.2.1).1];exact Nat.le_refl _
 have C1:=hide (st5 RD.out HZ.out ig.out kZ.out HPX.out rfl rfl (.pointer (some ⟨q.G,4,none⟩)) HF.out.2.2.2 HS.out.2.2.2 (by have:=HW.out;omega) (by have:=HN.out.1;have:=HW.out;have:=JR an ak HF.out.2.2.2;omega) (by rw [List.length_append];have:=HN.out.2;have:=HW.out;omega))
 have Xb:Hid (∀(V5:World) (tN:Option Addr) (xG:Nat),Hid (∃bG sv',bG.aG ak∧(aJ 0 0 bG).map Nd.x=(aJ 0 0 ak).map Nd.x∧(∀d∈fC tN bG,bD (V5.setCell ⟨b,o+6,none⟩ (.slice tN an xG)) d.x.vals d.b d.o)∧PB q B0 Vb S tb (tb+1) b o sv (L7 k nm mn Gg ln Gh wF nn Bj qK kn uQ tN an xG) (n+1+nn+kE ak) ((Q++eP qK kk)++fC tN bG) sv' (V5.setCell ⟨b,o+6,none⟩ (.slice tN an xG))∧aY (V5.setCell ⟨b,o+6,none⟩ (.slice tN an xG)) (λc=>Tw X4.drew.heap.size V5.heap.size sv' c∧dF (V5.setCell ⟨b,o+6,none⟩ (.slice tN an xG)) X4.drew.heap.size c 0 bG) tN an xG []∧(∀c∈iq bG,Tw X4.drew.heap.size V5.heap.size sv' c)∧(blk tN an++iq bG).Nodup∧Kc q Qp X4.drew V5∧Nw Qp sv' X4.drew)->UL q B0 V S b o sv k nm mn ln nn kn an lk nk kk ak n Q (V5.setCell ⟨b,o+6,none⟩ (.slice tN an xG))):=λV5 tN xG hh=>by
  obtain ⟨bG,sv',g1,g2,g3,g4,g5,g6,g7,g8,g9⟩:=hh.out
  obtain ⟨r1,r2,r3,r4,r5,r6,r7⟩:=R4.out
  have hz5:(V5.setCell ⟨b,o+6,none⟩ (.slice tN an xG)).heap.size=V5.heap.size:=by simp [World.setCell]
  have g8s:=g8.size
  have hs4:X4.drew.heap.size=X4.heap.size:=rfl
  have kd:=vK.out X4
  refine ⟨Vb,tb,tb+1,Gg,wF,qK,tN,Gh,Bj,uQ,xG,bG,sv',X1.heap.size,X2.heap.size,X3.heap.size,X4.heap.size,V5.heap.size,O5.out,kZ.out,g4,⟨r4,r5,r6,r7,by omega,by rw [hz5];exact Nat.le_refl _⟩,?_,?_,?_,g1,g2,g3,g5,g6,g7⟩
  .exact ((((r1.kc kZ.out r4 (by omega) (Kc.of kd) (Nw.refl _ _)).kc kZ.out r4 (by omega) g8 g9)).st kZ.out r4 (by omega))
  .exact ((((r2.kc kZ.out (by omega) (by omega) (Kc.of kd) (Nw.refl _ _)).kc kZ.out (by omega) (by omega) g8 g9)).st kZ.out (by omega) (by omega))
  .exact ((((r3.kc kZ.out (by omega) (by omega) (Kc.of kd) (Nw.refl _ _)).kc kZ.out (by omega) (by omega) g8 g9)).st kZ.out (by omega) (by omega))
 refine wp_region_held_drew (S:=λW=>W.cell? ⟨tb,0,none⟩=some (.pointer (some ⟨q.CB,0,none⟩))∧W.cell? ⟨tb+1,0,none⟩=some (.pointer (some ⟨b,o,none⟩))∧W.cell? ⟨tb+1,1,none⟩=some (.bool true)∧W.cell? ⟨q.CB,0,none⟩=some (.pointer (some ⟨q.G,0,none⟩))) (by kernel_rfl) eD (λhHeld=>?_)
 refine tn 0 ?_
 refine tn 1 ?_
 refine tn 2 ?_
 refine tn 3 ?_
 refine tn 4 ?_
 refine tn 5 ?_
 refine tn 6 ?_
 refine tn 7 ?_
 refine tn 8 ?_
 refine tn 9 ?_
 refine tn 10 ?_
 refine tn 11 ?_
 refine tn 12 ?_
 refine tn 14 ?_
 refine tn 15 ?_
 refine tn 16 ?_
 refine tn 17 ?_
 refine tn 18 ?_
 refine tn 19 ?_
 refine tn 20 ?_
 refine tn 21 ?_
 refine tn 24 ?_
 refine tn 25 ?_
 refine tn 26 ?_
 refine wpAnyH_ready (rs:=[13,22]) (by kernel_rfl) (by simp) ?_
 refine AllReadyH.cons (o:={dst:=some 93,op:=Op.load 33 (Operand.tmp 92),type:=33,pos:= "l13_core.go:872",after:=#[{on:=12,ground:=Ground.data}],guard:=none}) rfl (λK hK=>?_) (AllReadyH.cons (o:={dst:=some 102,op:=Op.load 33 (Operand.tmp 101),type:=33,pos:= "l13_core.go:872",after:=#[{on:=21,ground:=Ground.data}],guard:=none}) rfl (λK hK=>?_) (AllReadyH.nil))
 .
  go_simp
  refine hK.out _ _ hHeld (λhHeld=>?_)
  clear hK K
  try simp only [Act.put,List.setIfInBounds_toArray,List.set_cons_zero,List.set_cons_succ]
  refine rk 22 (λK hK=>?_)
  exact zz92
 .
  go_simp
  refine hK.out _ _ hHeld (λhHeld=>?_)
  clear hK K
  try simp only [Act.put,List.setIfInBounds_toArray,List.set_cons_zero,List.set_cons_succ]
  refine wpAnyH_ready (rs:=[13,23]) (by kernel_rfl) (by simp) ?_
  refine AllReadyH.cons (o:={dst:=some 93,op:=Op.load 33 (Operand.tmp 92),type:=33,pos:= "l13_core.go:872",after:=#[{on:=12,ground:=Ground.data}],guard:=none}) rfl (λK hK=>?_) (AllReadyH.cons (o:={dst:=some 103,op:=Op.call {callee:=Callee.value (Operand.func 93),args:=#[Operand.tmp 97,Operand.tmp 102],argTypes:=#[82,33]},type:=3,pos:= "l13_core.go:872",after:=#[{on:=17,ground:=Ground.data},{on:=22,ground:=Ground.data}],guard:=none}) rfl (λK hK=>?_) (AllReadyH.nil))
  .
   exact zz92
  .
   go_simp
   refine C1.out.mono ?_
   rintro e W5 ⟨i5,rfl,dK,f5,C5⟩
   refine hK.out _ _ dK (λhHeld=>?_)
   clear hK K
   try simp only [Act.put,List.setIfInBounds_toArray,List.set_cons_zero,List.set_cons_succ]
   refine rk 13 (λK hK=>?_)
   go_simp
   exact zz11
theorem dF.mono:∀(m o:Nat) (F:Fo) (W:World) (lo lo' c:Nat),lo'<=lo->Fit E F (rep (E 2) m)->dF W lo c o F->dF W lo' c o F
 | 0,o,F,W,lo,lo',c,_,hF,_=>by rw [ai hF];trivial
 | m+1,o,F,W,lo,lo',c,hl,hF,ha=>by
  obtain ⟨x,q',rfl,hx,hq,-⟩:=Fit.split (fs:=E 2) (gs:=rep (E 2) m) hF;obtain ⟨au,ca,cn,cc,ck,y,rfl,-,hck,hy⟩:=aK hx;obtain ⟨k',kD,GN,la',GQ,fu,lk',na',GR,bI,Bh,dC,CG,eY,xU,dA,GU,eZ,ML,rfl,-⟩:=ag hy;simp only [Fo.app,dF] at ha ⊢;exact ⟨ha.1,ha.2.1,⟨ha.2.2.1.1,ha.2.2.1.2.1,λhp=>by
   obtain ⟨b,o,e,s,r⟩:=ha.2.2.1.2.2 hp;exact ⟨b,o,e,⟨by omega,s.2⟩,r.1,pM cn ck hck⟩⟩,ha.2.2.2.1,dF.mono m (o+9) q' W lo lo' c hl hq ha.2.2.2.2⟩
def Ap (d e:Nd):Prop:=d.b≠e.b∨d.o+7<=e.o∨e.o+7<=d.o
theorem Ee {X:World} {b:Nat}:∀(n o:Nat) (F:Fo),Fit E F (rep (E 3) n)->bD X F.vals b o->(∀e∈aS b o F,bD X e.x.vals e.b e.o∧o<=e.o)∧(aS b o F).Pairwise Ap
 | 0,o,F,h,_=>by rw [ai h];exact ⟨λe he=>by simp [aS] at he,by simp [aS]⟩
 | n+1,o,F,h,hc=>by
  obtain ⟨x,q,rfl,hx,hq,hl⟩:=Fit.split (fs:=E 3) (gs:=rep (E 3) n) h;rw [Fo.bX] at hc;have hc1:=hc.left;have hc2:=hc.right;rw [Fo.aB,hl] at hc2;obtain ⟨g1,g2⟩:=Ee n (o+7) q hq hc2;obtain ⟨k,nm,mn,la,ln,lc,lk,na,nn,nc,nk,ka,kn,kc,kk,aa,an,ac,ak,rfl,-⟩:=ag hx;simp only [Fo.app,aS];refine ⟨λe he=>?_,List.pairwise_cons.2 ⟨λe he=>.inr (.inl (g1 e he).2),g2⟩⟩;rcases List.mem_cons.1 he with rfl | he
  .exact ⟨hc1,Nat.le_refl _⟩
  .exact ⟨(g1 e he).1,by have:=(g1 e he).2;omega⟩
theorem Js {b:Nat}:∀(n o:Nat) (F:Fo),Fit E F (rep (E 2) n)->(∀e∈aJ b o F,o+2<=e.o)∧(aJ b o F).Pairwise Ap
 | 0,o,F,h=>by rw [ai h];exact ⟨λe he=>by simp [aJ] at he,by simp [aJ]⟩
 | n+1,o,F,h=>by
  obtain ⟨x,q,rfl,hx,hq,hl⟩:=Fit.split (fs:=E 2) (gs:=rep (E 2) n) h;obtain ⟨g1,g2⟩:=Js n (o+9) q hq;obtain ⟨au,ca,cn,cc,ck,y,rfl,-,hck,hy⟩:=aK hx;obtain ⟨k,nm,mn,la,ln,lc,lk,na,nn,nc,nk,ka,kn,kc,kk,aa,an,ac,ak,rfl,-⟩:=ag hy;simp only [Fo.app,aJ];refine ⟨λe he=>?_,List.pairwise_cons.2 ⟨λe he=>.inr (.inl (by have:=g1 e he;show o+2+7<=e.o;omega)),g2⟩⟩;rcases List.mem_cons.1 he with rfl | he
  .exact Nat.le_refl _
  .have:=g1 e he;omega
structure CW (q:Cq) (B0:World) (P:Fo->Prop) (F:Fo) (V:World) (n:Nat) (Qc Q:List Nd) (sv:Value) (S:Nat->Prop):Prop where
 cs:CS q B0 V n Qc sv
 it:∀d∈Q,P d.x∧bD V d.x.vals d.b d.o∧S d.b
 dj:Q.Pairwise Ap
 s1:∀c,S c->c < V.heap.size∧(c=q.c0∨B0.heap.size<=c)∧sv.ownBlock≠some c
 fz:∀c j,S c->V.frozen? ⟨c,j,none⟩=false
 wd:wE V S Q q.c0 F
 pt:n+fD Q<=2097160
 c0:S q.c0
theorem Ef {T:Nat->Prop} {W:World} {a:Option Addr} {n cap:Nat} {L:List Value} (h:aY W T a n cap L) {S':Nat->Prop} (hS:∀c∈blk a n,S' c):aY W (λc=>S' c∧T c) a n cap L:=
 ⟨h.1,h.2.1,λhp=>by
  obtain ⟨b,e,t,c,f⟩:=h.2.2 hp;exact ⟨b,e,⟨hS b (by rw [e,aT hp];simp),t⟩,c,f⟩⟩
theorem CW.below {q:Cq} {B0 V X:World} {P:Fo->Prop} {F:Fo} {n:Nat} {Q0:List Nd} {d:Nd} {sv:Value} {S:Nat->Prop} (gd:Gd q B0 P) (h:CW q B0 P F V n Q0 (Q0++[d]) sv S)
  {k:Int} {nm:ByteArray} {mn:Bool} {la na ka aa:Option Addr} {ln lc nn nc kn kc an ac:Nat} {lk nk kk ak:Fo} (hd:d.x=.v (.int .i64 k) (.v (.string nm) (.v (.bool mn) (.s la ln lc lk (.s na nn nc nk (.s ka kn kc kk (.s aa an ac ak .nil)))))))
  (hb:UL q B0 V S d.b d.o sv k nm mn ln nn kn an lk nk kk ak n Q0 X):∃n' Q' sv' S',CW q B0 P F X n' Q' Q' sv' S'∧fD Q' < fD (Q0++[d]):=by
 obtain ⟨Kw,UM,hSd⟩:=h.it d (by simp);have hfit:=gd.fit _ Kw;have hx:=hd;obtain ⟨k',kD,GN,la',GQ,fu,lk',na',GR,bI,Bh,dC,CG,eY,xU,dA,GU,eZ,ML,he,-,-,f3,f4,f5,f6⟩:=ag hfit;rw [hd] at he
 cases he
 obtain ⟨Vb,tb,nx,UN,wF,um,sU,lc2,Bj,kc2,ac2,bG,sv',z1,z2,z3,z4,z5,kb,pc,pb,⟨y1,y2,y3,y4,y5,y6⟩,rN,rL,rK,sm,bd,cb,rA,hnb,hnd⟩:=hb;have GV:=kb.size;have Eg:=sm.fit f6;obtain ⟨NB,Bn⟩:∃NB,blk UN ln++(blk wF nn++(blk um kn++(blk sU an++iq bG)))=NB:=⟨_,rfl⟩
 have bN:=rN.blk;have bL:=rL.blk;have bK:=rK.blk;have bA:=rA.blk;have mN:∀c∈NB,z1<=c∧c < z5∧sv'.ownBlock≠some c∧∀j,X.frozen? ⟨c,j,none⟩=false:=λc hc=>by
  rw [<- Bn] at hc;simp only [List.mem_append] at hc;rcases hc with e | e | e | e | e
  .obtain ⟨⟨a1,a2,a3⟩,a4⟩:=bL c e;exact ⟨by omega,by omega,a3,a4⟩
  .obtain ⟨⟨a1,a2,a3⟩,a4⟩:=bN c e;exact ⟨by omega,by omega,a3,a4⟩
  .obtain ⟨⟨a1,a2,a3⟩,a4⟩:=bK c e;exact ⟨by omega,by omega,a3,a4⟩
  .obtain ⟨⟨⟨a1,a2,a3⟩,-⟩,a4⟩:=bA c e;exact ⟨by omega,by omega,a3,a4⟩
  .obtain ⟨a1,a2,a3⟩:=hnb c e
   refine ⟨by omega,by omega,a3,λj=>?_⟩
   by_cases hp:0 < an
   .obtain ⟨ab,-,⟨-,hat⟩,-⟩:=rA.2.2 hp
    have key:∀(m o:Nat) (G:Fo),Fit E G (rep (E 2) m)->dF X z4 ab o G->∀c∈iq G,X.frozen? ⟨c,j,none⟩=false:=by
     intro m
     induction m with
     | zero=>intro o G hG _ c hc;rw [ai hG] at hc;simp [iq] at hc
     | succ m ih=>
      intro o G hG ha c hc;obtain ⟨x,q',rfl,hx,hq,-⟩:=Fit.split (fs:=E 2) (gs:=rep (E 2) m) hG;obtain ⟨au,ca,cn,cc,ck,y,rfl,-,hck,hy⟩:=aK hx;obtain ⟨k',kD,GN,la',GQ,fu,lk',na',GR,bI,Bh,dC,CG,eY,xU,dA,GU,eZ,ML,rfl,-⟩:=ag hy;simp only [Fo.app,dF] at ha;simp only [Fo.app,iq] at hc;rcases List.mem_append.1 hc with e | e
      .exact ha.2.2.2.1 c e j
      .exact ih (o+9) q' hq ha.2.2.2.2 c e
    exact key an 0 bG Eg hat c e
   .have e0:an=0:=by omega
    subst e0;rw [ai Eg] at e;simp [iq] at e
 obtain ⟨S',hS'⟩:∃S':Nat->Prop,(λc=>S c∨c∈NB)=S':=⟨_,rfl⟩
 have uo:∀c,S c->S' c:=λc hc=>by rw [<- hS'];exact .inl hc
 have GY:∀c,c∈NB->S' c:=λc hc=>by rw [<- hS'];exact .inr hc
 have XD:∀c,S' c->S c∨c∈NB:=λc hc=>by rw [<- hS'] at hc;exact hc
 have nL:∀c∈blk UN ln,c∈NB:=λc hc=>by rw [<- Bn];simp [hc]
 have nN:∀c∈blk wF nn,c∈NB:=λc hc=>by rw [<- Bn];simp [hc]
 have nK:∀c∈blk um kn,c∈NB:=λc hc=>by rw [<- Bn];simp [hc]
 have nA:∀c∈blk sU an,c∈NB:=λc hc=>by rw [<- Bn];simp [hc]
 have nB:∀c∈iq bG,c∈NB:=λc hc=>by rw [<- Bn];simp [hc]
 have Bp:∀e∈eP um kk,e.b∈blk um kn:=λe he=>by
  by_cases h0:0 < kn
  .obtain ⟨kb,rfl,-⟩:=rK.2.2 h0
   rw [aT h0,GZ kn 0 kk f5 e he];simp
  .have e0:kn=0:=by omega
   subst e0;rw [ai f5] at he
   cases um <;> simp [eP,aS] at he
 have G8:∀e∈fC sU bG,e.b∈blk sU an:=λe he=>by
  by_cases h0:0 < an
  .obtain ⟨ab,rfl,-⟩:=rA.2.2 h0
   rw [aT h0,(wG an 0 bG Eg e he).1];simp
  .have e0:an=0:=by omega
   subst e0;rw [ai Eg] at he
   cases sU <;> simp [fC,aJ] at he
 have XE:(blk UN ln++(blk wF nn++(blk um kn++(blk sU an++iq bG)))).Nodup:=by
  have one:∀(a:Option Addr) (n:Nat),(blk a n).Nodup:=λa n=>by cases a <;> cases n <;> simp [blk]
  have MM:∀c∈blk sU an++iq bG,z4<=c:=λc hc=>by
   rcases List.mem_append.1 hc with e | e
   .exact (bA c e).1.1.1
   .exact (hnb c e).1
  refine List.nodup_append.2 ⟨one _ _,List.nodup_append.2 ⟨one _ _,List.nodup_append.2 ⟨one _ _,hnd,λa ha b hb e=>?_⟩,λa ha b hb e=>?_⟩,λa ha b hb e=>?_⟩
  .have:=(bK a ha).1.2.1;have:=MM b hb;omega
  .have:=(bN a ha).1.2.1
   rcases List.mem_append.1 hb with e2 | e2
   .have:=(bK b e2).1.1;omega
   .have:=MM b e2;omega
  .obtain ⟨w1,w2,-⟩:=(bL a ha).1
   rcases List.mem_append.1 hb with e2 | e2
   .have:=(bN b e2).1.2.1;omega
   .rcases List.mem_append.1 e2 with e3 | e3
    .have:=(bK b e3).1.1;omega
    .have:=MM b e3;omega
 have hdj:=List.pairwise_append.1 h.dj;have hkp:∀c j,S c->¬(c=d.b∧d.o<=j∧j < d.o+7)->X.cell? ⟨c,j,none⟩=V.cell? ⟨c,j,none⟩:=λc j hc hn=>(pb.kp c j hc hn).trans (kb.cell (p:=⟨c,j,none⟩) (h.s1 c hc).1 trivial)
 have asm:=Ky (V:=V) (V2:=X) (S2:=S') (Q:=Q0) (b:=d.b) (o:=d.o) (k:=k) (nm:=nm) (mn:=mn) (la:=la) (na:=na) (ka:=ka) (aa:=aa) (lc:=lc) (nc:=nc) (kc:=kc) (ac:=ac) f3 f4 f5 f6 sm pb.ce
  ((Ef rL (λc hc=>GY c (nL c hc))).keep (Kept.refl (λ_=>True) X) (λc hc=>⟨trivial,by have:=hc.2.2.1;omega⟩) (λc hc=>⟨hc.1,by have:=hc.2.1;omega,by have:=hc.2.2.1;omega⟩))
  ((Ef rN (λc hc=>GY c (nN c hc))).keep (Kept.refl (λ_=>True) X) (λc hc=>⟨trivial,by have:=hc.2.2.1;omega⟩) (λc hc=>⟨hc.1,by have:=hc.2.1;omega,by have:=hc.2.2.1;omega⟩))
  ⟨rK.1,rK.2.1,λhp=>by
   obtain ⟨c,e,⟨t1,t2,t3⟩,cl,f⟩:=rK.2.2 hp;exact ⟨c,e,⟨GY c (nK c (by rw [e,aT hp];simp)),by omega,by omega⟩,bD.nil _ _ _,f⟩⟩
  ⟨rA.1,rA.2.1,λhp=>by
   obtain ⟨c,e,⟨⟨t1,t2,t3⟩,hat⟩,cl,f⟩:=rA.2.2 hp;exact ⟨c,e,⟨GY c (nA c (by rw [e,aT hp];simp)),by omega,by omega,dF.mono an 0 bG X z4 _ c (by omega) Eg hat⟩,cl,f⟩⟩
  (λc hc=>by obtain ⟨a1,a2,a3⟩:=hnb c hc;exact ⟨GY c (nB c hc),by omega,by omega⟩) XE
  (λe he=>(h.s1 e.b (h.it e (List.mem_append.2 (.inl he))).2.2).1) (uo _ hSd) (h.s1 _ hSd).1
  (λj j1 j2 hq=>by
   obtain ⟨e,he,e1,e2,e3⟩:=hq;rcases hdj.2.2 e he d (by simp) with w | w | w
   .exact w e1
   .omega
   .omega)
 rw [<- hx] at asm;have MN:∀e∈eP um kk++fC sU bG,V.heap.size<=e.b∧e.b∈NB:=λe he=>by
  rcases List.mem_append.1 he with w | w
  .have:=nK _ (Bp e w);exact ⟨by have:=(mN _ this).1;omega,this⟩
  .have:=nA _ (G8 e w);exact ⟨by have:=(mN _ this).1;omega,this⟩
 have wd:=wE.step (S2:=S') h.wd (by omega) (h.s1 _ h.c0).1 (λc hc=>(h.s1 c hc).1) uo (λc j hc hn=>hkp c j hc (λ⟨w1,w2,w3⟩=>hn ⟨d,by simp,w1.symm,w2,w3⟩)) (λc j hc=>(pb.fz c j hc).trans (h.fz c j hc).symm) (λe he=>(MN e he).1) asm;have hcK:(∀e∈eP um kk,bD X e.x.vals e.b e.o)∧(eP um kk).Pairwise Ap:=by
  by_cases h0:0 < kn
  .obtain ⟨kb,rfl,-,hc,-⟩:=rK.2.2 h0
   obtain ⟨g1,g2⟩:=Ee kn 0 kk f5 hc;exact ⟨λe he=>(g1 e he).1,g2⟩
  .have e0:kn=0:=by omega
   subst e0;rw [ai f5]
   cases um <;> exact ⟨λe he=>by simp [eP,aS] at he,by simp [eP,aS]⟩
 have hcA:(fC sU bG).Pairwise Ap:=by
  cases sU with
  | none=>simp [fC]
  | some p=>exact (Js an p.off bG Eg).2
 have hPA:∀e∈fC sU bG,P e.x:=λe he=>by
  have hm:e.x∈(aJ 0 0 ak).map Nd.x:=by
   rw [<- bd]
   cases sU with
   | none=>simp [fC] at he
   | some p=>
    rw [<- G9 p.block 0 an p.off 0 bG Eg];exact List.mem_map.2 ⟨e,he,rfl⟩
  obtain ⟨e2,he2,e3⟩:=List.mem_map.1 hm;rw [<- e3]
  have:=gd.gA _ Kw 0 0 e2
  rw [hx] at this;exact this he2
 have hPK:∀e∈eP um kk,P e.x:=λe he=>by
  cases um with
  | none=>simp [eP] at he
  | some p=>
   have:=gd.gK _ Kw p.block p.off e
   rw [hx] at this;exact this he
 refine ⟨_,(Q0++eP um kk)++fC sU bG,sv',S',⟨pb.cs,λe he=>?_,?_,λc hc=>?_,λc j hc=>?_,by rw [List.append_assoc];exact wd,?_,uo _ h.c0⟩,?_⟩
 .rcases List.mem_append.1 he with he | he
  .rcases List.mem_append.1 he with he | he
   .obtain ⟨w1,w2,w3⟩:=h.it e (List.mem_append.2 (.inl he))
    refine ⟨w1,λi v hv=>?_,uo _ w3⟩;have hi:i < 7:=by have:=(List.getElem?_eq_some_iff.1 hv).1;rw [Fo.aB,Fit.len (gd.fit _ w1)] at this;exact this
    rw [hkp e.b (e.o+i) w3 (λ⟨q1,q2,q3⟩=>?_)]
    .exact w2 i v hv
    .rcases hdj.2.2 e he d (by simp) with w | w | w
     .exact w q1
     .omega
     .omega
   .exact ⟨hPK e he,hcK.1 e he,GY _ (nK _ (Bp e he))⟩
  .exact ⟨hPA e he,cb e he,GY _ (nA _ (G8 e he))⟩
 .refine List.pairwise_append.2 ⟨List.pairwise_append.2 ⟨hdj.1,hcK.2,λe he f hf=>.inl ?_⟩,hcA,λe he f hf=>.inl ?_⟩
  .have w1:=(h.s1 _ (h.it e (List.mem_append.2 (.inl he))).2.2).1
   have w2:=(MN f (List.mem_append.2 (.inl hf))).1;omega
  .rcases List.mem_append.1 he with he | he
   .have w1:=(h.s1 _ (h.it e (List.mem_append.2 (.inl he))).2.2).1
    have w2:=(MN f (List.mem_append.2 (.inr hf))).1;omega
   .have w1:=(bK _ (Bp e he)).1.2.1
    have w2:=(bA _ (G8 f hf)).1.1.1;omega
 .rcases XD c hc with e | e
  .obtain ⟨w1,w2,w3⟩:=h.s1 c e
   have:=pb.zz
   exact ⟨by omega,w2,pb.nw.ne (by omega) w3⟩
  .obtain ⟨w1,w2,w3,-⟩:=mN c e
   have:=pc.hz
   exact ⟨by omega,.inr (by omega),w3⟩
 .rcases XD c hc with e | e
  .exact pb.fz c j e
  .exact (mN c e).2.2.2 j
 all_goals
  have hpt:=h.pt;have e1:fD (eP um kk)<=kn+2 * kk.wt:=by
   cases um with
   | none=>simp [eP,fD]
   | some p=>exact Nat.le_of_eq (Jt p.block kn p.off kk f5)
  have e2:fD (fC sU bG)+kE ak<=2 * an+2 * ak.wt:=by
   have e3:=Ju 0 an 0 ak f6;have e4:fD (fC sU bG)<=fD (aJ 0 0 ak):=by
    cases sU with
    | none=>simp [fC,fD]
    | some p=>
     have:fD (aJ p.block p.off bG)=fD (aJ 0 0 ak):=QC _ _ ((G9 p.block 0 an p.off 0 bG Eg).trans bd)
     exact Nat.le_of_eq this
   omega
  have e5:fD [d]=1+2 * (nm.size+(ln+lk.wt+(nn+nk.wt+(kn+kk.wt+(an+ak.wt))))):=by
   rw [qo,hx];simp only [Eh,fD,Fo.wt,bU,List.map_nil,List.sum_nil];omega
  rw [BQ] at hpt;simp only [BQ];omega
theorem Zc (w:World):(Instr.makeMap 84 none).run Tryz.prog w=.ok (.map (some w.heap.size)) (w.alloc (.map #[] 0)):=by kernel_rfl
theorem CW.pop {q:Cq} {B0 V:World} {P:Fo->Prop} {F:Fo} {n:Nat} {Q0:List Nd} {d:Nd} {sv:Value} {S:Nat->Prop} (h:CW q B0 P F V n (Q0++[d]) (Q0++[d]) sv S):
  ∃(r cap:Nat),sv=.slice (some ⟨r,0,none⟩) (Q0.length+1) cap∧V.cell? ⟨r,Q0.length * 2,none⟩=some d.ptr∧V.cell? ⟨r,Q0.length * 2+1,none⟩=some (.bool true)∧Q0.length+1<=cap∧
   ∀V1,Kept (λ_=>True) V V1->(V1.cell? ⟨q.CB,12,none⟩=some sv∧V1.frozen? ⟨q.CB,12,none⟩=false)∧CW q B0 P F (V1.setCell ⟨q.CB,12,none⟩ (.slice (some ⟨r,0,none⟩) Q0.length cap)) n Q0 (Q0++[d]) (.slice (some ⟨r,0,none⟩) Q0.length cap) S:=by
 have hq:=h.cs.ow;rw [show (Q0++[d]).length=Q0.length+1 from by simp] at hq;have hq2:=hq;rcases hq2.2 with ⟨-,e2⟩ | ⟨r,cap,cur,rfl,hb,hg,hc,hm,hs,ht⟩
 .omega
 refine ⟨r,cap,rfl,?_,?_,hc,λV1 k1=>?_⟩
 .have:=hq.cells (g:=r) rfl (Q0.length * 2) d.ptr (by rw [vF,List.getElem?_append_right (by rw [nV];omega),nV];simp)
  rwa [addr_add,Nat.zero_add] at this
 .have:=hq.cells (g:=r) rfl (Q0.length * 2+1) (.bool true) (by rw [vF,List.getElem?_append_right (by rw [nV];omega),nV];simp)
  rwa [addr_add,Nat.zero_add] at this
 .have h1:=h.cs.keep k1
  obtain ⟨⟨l1,l2⟩,l3,l4,l5,l6⟩:=h.cs.lt;have hz:=h1.vw;have hr:=h1.hi r rfl;have hVz:=k1.size;have hlc:q.CB < V1.heap.size:=by omega
  have ks:Kept (λc=>c≠q.CB) V1 (V1.setCell ⟨q.CB,12,none⟩ (.slice (some ⟨r,0,none⟩) Q0.length cap)):=Kept.setCell _ _ _ _ (λx=>x rfl);have kk:Kept (λc=>c≠q.CB) V (V1.setCell ⟨q.CB,12,none⟩ (.slice (some ⟨r,0,none⟩) Q0.length cap)):=(k1.mono (λ_ _ _=>trivial)).trans ks;have cS:∀j,j≠12->(V1.setCell ⟨q.CB,12,none⟩ (.slice (some ⟨r,0,none⟩) Q0.length cap)).cell? ⟨q.CB,j,none⟩=V1.cell? ⟨q.CB,j,none⟩:=λj hj=>
   World.cell?_setCell_other _ _ _ _ (λe=>hj (by have:=congrArg Addr.off e;simp at this;omega))
  have nS:∀c,S c->c≠q.CB:=λc hc=>by
   rcases (h.s1 c hc).2.1 with e | e <;> omega
  refine ⟨⟨h1.cW,h1.fW⟩,⟨⟨ks.os.trans h1.kb.os,ks.tape.trans h1.kb.tape,ks.output.trans h1.kb.output,Nat.le_trans hz ks.size,λc hc hs=>(ks.block c (by omega) hs.2.1).trans (h1.kb.block c hc hs)⟩,(cS 0 (by decide)).trans h1.cG,(cS 9 (by decide)).trans h1.cT,(cS 10 (by decide)).trans h1.cZ,World.cell?_setCell_same _ _ _ h1.cW,by rw [World.frozen?_setCell];exact h1.fW,h1.tm.kept ks (λe=>l4 e.symm),?_,h1.lt⟩,λe he=>?_,h.dj,λc hc=>?_,λc j hc=>?_,?_,h.pt,h.c0⟩
  .have o1:V1.ownsRow B0.heap.size 104 2 (.slice (some ⟨r,0,none⟩) Q0.length cap) Q0.length (Bu Q0):=by
    have hq1:=h1.ow;rw [show (Q0++[d]).length=Q0.length+1 from by simp] at hq1;rcases hq1.2 with ⟨-,e2⟩ | ⟨r',cap',cur',e3,hb',hg',hc',hm',hs',ht'⟩
    .omega
    .cases e3
     refine ⟨by rw [nV],.inr ⟨r,cap,cur',rfl,hb',hg',by omega,hm',hs',?_⟩⟩
     have:=congrArg (List.take (Q0.length * 2)) ht'
     rw [List.take_take,Nat.min_eq_left (by omega),vF] at this;rw [this];exact List.take_left' (nV _)
   exact aj o1 ks (λc e=>by have e2:r=c:=Option.some.inj e;rw [<- e2];show r≠q.CB;omega)
  .obtain ⟨w1,w2,w3⟩:=h.it e he
   exact ⟨w1,w2.kept kk (h.s1 _ w3).1 (nS _ w3),w3⟩
  .obtain ⟨w1,w2,w3⟩:=h.s1 c hc
   exact ⟨by have:=kk.size;omega,w2,w3⟩
  .exact (kk.frozen (p:=⟨c,j,none⟩) (h.s1 c hc).1 (nS c hc)).trans (h.fz c j hc)
  .exact h.wd.keep kk.size (λc j hc=>kk.cell (p:=⟨c,j,none⟩) (h.s1 c hc).1 (nS c hc)) (λc j hc=>kk.frozen (p:=⟨c,j,none⟩) (h.s1 c hc).1 (nS c hc))
theorem GP.gd {W Wg B0:World} {G nl:Nat} {P:Fo->Prop} (h:GP W Wg G P nl) {q:Cq} (b:Below Wg.heap.size Wg B0) (hG:q.G=G) (hn:q.nl=nl) (h1:Wg.heap.size<=q.CB) (h2:Wg.heap.size<=q.TB) (h3:q.c0+4=W.heap.size):Gd q B0 P:=by
 have hz:=b.size;have hb:∀c,BG W Wg c->q.bs B0 c:=λc hc=>⟨by have:=hc.1;omega,by have:=hc.1;omega,by have:=hc.1;omega,by have:=hc.2;omega⟩
 have k1:Kept (BG W Wg) Wg B0:=Kept.of_below b (λb hb _=>hb);have kk:∀V,Kept (q.bs B0) B0 V->Kept (BG W Wg) Wg V:=λV k=>k1.trans (k.mono (λc _ hc=>hb c hc))
 refine ⟨h.fit,λx hx=>(h.subs x hx).keep hb (λp hp v hv=>(b.cell hp.1).trans hv),h.wt,h.gK,h.gA,λx hx cap V k=>?_,λx hx cap V k=>?_⟩
 .rw [hG,hn];exact h.cK x hx cap V (kk V k)
 .rw [hG,hn];exact h.cA x hx cap V (kk V k)
theorem GE.low {W Wg:World} {rb G:Nat} {F:Fo} (h:GE W Wg rb F G):Below W.heap.size W Wg:=by
 obtain ⟨O,A7,lo,wb,M0,KK,AA,KR,AR,mk,sk,ma,sa,tk,ta,LS,lv,nv,PQ,gi,np,-⟩:=h;exact np.be
theorem CW.round {q:Cq} {B0 V:World} {P:Fo->Prop} {F:Fo} {n:Nat} {Q0:List Nd} {d:Nd} {sv:Value} {S:Nat->Prop} (gd:Gd q B0 P) (z:Sz q B0) (h:CW q B0 P F V n Q0 (Q0++[d]) sv S):
  Calls Tryz.prog 54 #[.pointer (some ⟨q.CB,0,none⟩),.agg #[.pointer (some ⟨d.b,d.o,none⟩),.bool true]] V λe V'=>e=.returned (.tuple #[])∧Hid (∃n' Q' sv' S',CW q B0 P F V' n' Q' Q' sv' S'∧fD Q' < fD (Q0++[d])):=by
 obtain ⟨Kw,UM,hSd⟩:=h.it d (by simp);obtain ⟨k,nm,mn,la,ln,lc,lk,na,nn,nc,nk,ka,kn,kc,kk,aa,an,ac,ak,hx,-⟩:=ag (gd.fit _ Kw);have hpt:=h.pt;have hpl:=wJ (Q0++[d]);simp only [List.length_append,List.length_cons,List.length_nil] at hpl;have hP:=Kw;rw [hx] at hP UM;refine (vg gd z h.cs h.s1 h.fz hSd hP UM (by omega) (by omega)).mono ?_;rintro e V' ⟨rfl,hb⟩;exact ⟨rfl,h.below gd hx hb.out⟩
theorem CW.fin {q:Cq} {B0 V:World} {P:Fo->Prop} {F:Fo} {n:Nat} {sv:Value} {S:Nat->Prop} (h:CW q B0 P F V n [] [] sv S) (hf:Fit E F (E 3)):
  (∃a c,V.cell? ⟨q.CB,12,none⟩=some (.slice a 0 c))∧∃g:Fo,Fit E g (E 3)∧g.aG F∧bD V g.vals q.c0 0∧g.av V (λc=>B0.heap.size<=c∧c < V.heap.size)∧g.ah.Nodup∧Live V g.ah:=by
 obtain ⟨a,c,e⟩:=kU h.cs.ow;have h12:=h.cs.cW;rw [e] at h12;obtain ⟨g,g1,g2,g3,g4,g5⟩:=h.wd.done;refine ⟨⟨a,c,h12⟩,g,g1.fit hf,g1,g2,g3.mono (λc hc=>?_),g4,g5⟩;obtain ⟨w1,w2,-⟩:=h.s1 c hc.1
 have:=hc.2
 exact ⟨by rcases w2 with e | e <;> omega,w1⟩
theorem CS.begin {q:Cq} {B0:World} {F:Fo} {P:Fo->Prop} (Ry:P F) (hw:F.wt<=1048576) (bx:Bx B0 q.CB [.pointer (some ⟨q.G,0,none⟩),.map none,.slice none 0 0,.slice none 0 0,.slice none 0 0,.map none,.slice none 0 0,.slice none 0 0,.slice none 0 0,.map (some q.TB),.slice (some ⟨q.lb,0,none⟩) q.nl q.lc,.int .i64 0,.slice none 0 0,.slice none 0 0,.slice none 0 0]) (ht:TM B0 q.TB 0) (hx:Bx B0 q.c0 F.vals) (h1:q.CB≠q.TB) (h2:q.CB≠q.c0) (h3:q.TB≠q.c0):
  Calls Tryz.prog 53 #[.pointer (some ⟨q.CB,0,none⟩),.pointer (some ⟨q.c0,0,none⟩),.bool true] B0 λe V'=>e=.returned (.tuple #[])∧Hid (∃n Q sv S,CW q B0 P F V' n Q Q sv S):=by
 have cs:CS q B0 B0 0 [] (.slice none 0 0):=⟨Kept.refl _ _,bx.ae 0 _ rfl,bx.ae 9 _ rfl,bx.ae 10 _ rfl,bx.ae 12 _ rfl,bx.live 12,ht,World.ownsRow_nil _ _ _ _,⟨bx.lt,ht.lt⟩,hx.lt,h1,h2,h3⟩
 refine (cs.wait ⟨q.c0,0,F⟩ (by simp)).mono ?_;rintro e V' ⟨rfl,sv',h',kc,nw⟩;have hl:=hx.lt;have hs:q.c0≠q.CB∧q.c0≠q.TB∧(Value.slice none 0 0).ownBlock≠some q.c0:=⟨λe=>h2 e.symm,λe=>h3 e.symm,λe=>by cases e⟩
 refine ⟨rfl,0,[⟨q.c0,0,F⟩],sv',λc=>c=q.c0,⟨h',λe he=>?_,List.pairwise_singleton _ _,λc hc=>?_,λc j hc=>?_,wE.start rfl,?_,rfl⟩⟩
 .rw [List.mem_singleton] at he
  subst he;exact ⟨Ry,(show bD B0 F.vals q.c0 0 from λi v hv=>by rw [Nat.zero_add];exact hx.ae i v hv).kept kc hl hs,rfl⟩
 .subst hc
  exact ⟨by have:=kc.size;omega,.inl rfl,nw.ne hl (λe=>by cases e)⟩
 .subst hc
  exact (kc.frozen (p:=⟨q.c0,j,none⟩) hl hs).trans (hx.live j)
 .simp only [fD,Eh,List.map_cons,List.map_nil,List.sum_cons,List.sum_nil]
  omega
theorem jd {w:World} {b:Nat} {t:TypeId} {a0 a1 a2 a3 a4 a5 a6:Value} (v0 v1 v2 v3 v4 v5 v6:Value) (h:w.heap[b]? =some (.cells #[a0,a1,a2,a3,a4,a5,a6] t)):
  (((((((w.setCell ⟨b,0,none⟩ v0).setCell ⟨b,1,none⟩ v1).setCell ⟨b,2,none⟩ v2).setCell ⟨b,3,none⟩ v3).setCell ⟨b,4,none⟩ v4).setCell ⟨b,5,none⟩ v5).setCell ⟨b,6,none⟩ v6).heap[b]? =some (.cells #[v0,v1,v2,v3,v4,v5,v6] t):=by
 obtain ⟨w0,e0⟩:∃x,w.setCell ⟨b,0,none⟩ v0=x:=⟨_,rfl⟩
 have h0:w0.heap[b]? =some (.cells #[v0,a1,a2,a3,a4,a5,a6] t):=by have:=heap_setCell_same w b 0 _ t v0 h;rw [e0] at this;simpa using this
 rw [e0];obtain ⟨w1,e1⟩:∃x,w0.setCell ⟨b,1,none⟩ v1=x:=⟨_,rfl⟩
 have h1:w1.heap[b]? =some (.cells #[v0,v1,a2,a3,a4,a5,a6] t):=by have:=heap_setCell_same w0 b 1 _ t v1 h0;rw [e1] at this;simpa using this
 rw [e1];obtain ⟨w2,e2⟩:∃x,w1.setCell ⟨b,2,none⟩ v2=x:=⟨_,rfl⟩
 have h2:w2.heap[b]? =some (.cells #[v0,v1,v2,a3,a4,a5,a6] t):=by have:=heap_setCell_same w1 b 2 _ t v2 h1;rw [e2] at this;simpa using this
 rw [e2];obtain ⟨w3,e3⟩:∃x,w2.setCell ⟨b,3,none⟩ v3=x:=⟨_,rfl⟩
 have h3:w3.heap[b]? =some (.cells #[v0,v1,v2,v3,a4,a5,a6] t):=by have:=heap_setCell_same w2 b 3 _ t v3 h2;rw [e3] at this;simpa using this
 rw [e3];obtain ⟨w4,e4⟩:∃x,w3.setCell ⟨b,4,none⟩ v4=x:=⟨_,rfl⟩
 have h4:w4.heap[b]? =some (.cells #[v0,v1,v2,v3,v4,a5,a6] t):=by have:=heap_setCell_same w3 b 4 _ t v4 h3;rw [e4] at this;simpa using this
 rw [e4];obtain ⟨w5,e5⟩:∃x,w4.setCell ⟨b,5,none⟩ v5=x:=⟨_,rfl⟩
 have h5:w5.heap[b]? =some (.cells #[v0,v1,v2,v3,v4,v5,a6] t):=by have:=heap_setCell_same w4 b 5 _ t v5 h4;rw [e5] at this;simpa using this
 rw [e5]
 have:=heap_setCell_same w5 b 6 _ t v6 h5
 simpa using this
theorem Nv:(Tryz.prog.underlying 35).map (λd=>match d with | .struct _ | .array _ _=>true | _=>false)=some true:=by kernel_rfl
theorem Tn:(Tryz.prog.info? 35).map (·.size)=some 7:=by kernel_rfl
theorem U9 {w:World} {b:Nat} {a0 a1 a2 a3 a4 a5 a6:Value} {v0 v1 v2 v3 v4 v5 v6:Value} (h:w.heap[b]? =some (.cells #[a0,a1,a2,a3,a4,a5,a6] 35)) {tmps:Array Value} (ht:tmps.getD 2 undef=.pointer (some ⟨b,0,none⟩)):
  (results Tryz.f23 tmps).run Tryz.prog (((((((w.setCell ⟨b,0,none⟩ v0).setCell ⟨b,1,none⟩ v1).setCell ⟨b,2,none⟩ v2).setCell ⟨b,3,none⟩ v3).setCell ⟨b,4,none⟩ v4).setCell ⟨b,5,none⟩ v5).setCell ⟨b,6,none⟩ v6)=.ok (.agg #[v0,v1,v2,v3,v4,v5,v6]) (((((((w.setCell ⟨b,0,none⟩ v0).setCell ⟨b,1,none⟩ v1).setCell ⟨b,2,none⟩ v2).setCell ⟨b,3,none⟩ v3).setCell ⟨b,4,none⟩ v4).setCell ⟨b,5,none⟩ v5).setCell ⟨b,6,none⟩ v6):=by
 obtain ⟨d,hd,hm⟩:=Option.map_eq_some_iff.1 Nv;have hc:=jd v0 v1 v2 v3 v4 v5 v6 h;obtain ⟨X,hX⟩:∃X,((((((w.setCell ⟨b,0,none⟩ v0).setCell ⟨b,1,none⟩ v1).setCell ⟨b,2,none⟩ v2).setCell ⟨b,3,none⟩ v3).setCell ⟨b,4,none⟩ v4).setCell ⟨b,5,none⟩ v5).setCell ⟨b,6,none⟩ v6=X:=⟨_,rfl⟩
 rw [hX] at hc ⊢;exact results_cell_row (P:=Tryz.prog) (fn:=Tryz.f23) (p:=2) (ty:=35) rfl tmps X b 35 #[v0,v1,v2,v3,v4,v5,v6] (0,0) d ht hc hd (by revert hm;cases d <;> simp) Tn
end Go.Proofs.YthfnobboalhihaaGreat
