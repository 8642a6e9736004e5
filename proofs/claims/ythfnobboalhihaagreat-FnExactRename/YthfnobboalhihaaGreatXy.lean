import Derived.Test.YthfnobboalhihaaGreatXl
import Derived.Test.YthfnobboalhihaaGreatVe
import Derived.Test.YthfnobboalhihaaGreatVf
set_option maxHeartbeats 8000000
set_option maxRecDepth 100000
namespace Go.Proofs.YthfnobboalhihaaGreat
open Go.RowKit Go.Joins
theorem zz10 {P:Prop} (h:P:=by
 go_loopw [37] (λ_ wr=>∃k,CI g W lo G B tb lb (i+1) wr k) (λ_ wr=>least (CI g W lo G B tb lb (i+1) wr))
 case atStart=>exact HK.out
 case round=>
  clear HK;have hci:=oK hrel;clear hrel;obtain ⟨T,L,st,sv,hI,hM,hsv,hL,hkk⟩:=hci;have HI:=hide hI;have HM:=hide hM;have sZ:=hide hL;have HKK:=hide hkk;have c4:=hM.bx.ae 4 _ rfl;have hlen:=hI.len;clear hI hM hL hkk
  cases st with
  | nil=>
   have V9:Hid (BI g W lo G B tb lb (i+1) wr):=by
    refine ⟨T,L,sv,HI.out,HM.out,?_,sZ.out⟩;rcases hsv with ⟨h,-⟩ | ⟨b,cap,h⟩
    .exact .inl h
    .exact .inr ⟨b,cap,h⟩
   have hz:∃a cap,sv=.slice a 0 cap:=by
    rcases hsv with ⟨h,-⟩ | ⟨b,cap,h⟩
    .exact ⟨_,_,h⟩
    .exact ⟨_,_,h⟩
   clear hsv;obtain ⟨a,cap,rfl⟩:=hz;go_wp2_with fail;go_roundw
   case rel=>exact ⟨i+1,by go_num,by omega,V9.out⟩
   case measure=>simp only [intOf];omega
  | cons x st=>
   obtain ⟨l,n⟩:=x;obtain ⟨b,cap,rfl⟩:∃b cap,sv=.slice (some ⟨b,0,none⟩) (st.length+1) cap:=by
    rcases hsv with ⟨-,h⟩ | ⟨b,cap,h⟩
    .cases h
    .exact ⟨b,cap,h⟩
   clear hsv;obtain ⟨m,hm⟩:∃m,st.length=m:=⟨_,rfl⟩
   rw [List.length_cons,hm] at hlen;rw [hm] at HM c4;have OY:=hide (JD HC.out hm HM.out HI.out (by omega) HH.out.lim);clear hm;go_wp2_with fail;refine OY.out.mono ?_;rintro e w5 ⟨rfl,T',L',st',sv',g1,g2,g3,g4,g5⟩;have OZ:Hid (CI g W lo G B tb lb (i+1) w5 (g.left L' st')):=⟨T',L',st',sv',g1,g2,g4,λj hj=>g5 j (sZ.out j hj),rfl⟩
   have lK:=hide g3;clear g1 g2 g3 g4 g5 OY;go_wp2_with fail;go_roundw
   case rel=>exact ⟨_,OZ.out⟩
   case measure=>
    rw [HKK.out];exact Nat.lt_of_le_of_lt (least_le OZ.out) lK.out):P:=h
structure MG (g:Gr) (W:World) (G nb gy cn cm:Nat):Prop where
 ok:g.Ok
 pos:1<=g.nt∧1<=g.nl
 nc:g.nt<=cn∧g.nl<=cm
 n8:W.cell? ⟨G,8,none⟩=some (.slice (some ⟨nb,0,none⟩) g.nt cn)
 n9:W.cell? ⟨G,9,none⟩=some (.slice (some ⟨gy,0,none⟩) g.nl cm)
 nd:∀k,k < g.nt->W.cell? ⟨nb,k * 3+1,none⟩=some (.int .i64 (g.pl k))∧W.cell? ⟨nb,k * 3+1+1,none⟩=some (.int .i64 (g.ql k))
 ls:∀l,l < g.nl->W.cell? ⟨gy,l * 2,none⟩=some (.int .i64 (g.fst l))∧W.cell? ⟨gy,l * 2+1,none⟩=some (.int .i64 (g.cnt l))
 lim:∀p q,p < g.nl->q < g.nl->g.sL p<=400000000∧g.sL q<=400000000
 wg:∀k,k < g.nt->∀V,Below W.heap.size W V->Calls Tryz.prog 50 #[.pointer (some ⟨g.cp,0,none⟩),.int .i64 (k:Int)] V λe V'=>e=.returned (.int .i64 (g.w k:Int))∧Kept (λ_=>True) V V'
theorem RR.kept {A B:World} {b n k:Nat} {S:Nat->Prop} (h:RR A b n k) (kk:Kept S A B) (hb:S b):RR B b n k:=by
 obtain ⟨cur,h1,h2,h3⟩:=h;exact ⟨cur,(kk.block b (Array.getElem?_eq_some_iff.1 h1).1 hb).trans h1,h2,h3⟩
theorem RR.lt {A:World} {b n k:Nat} (h:RR A b n k):b < A.heap.size:=by
 obtain ⟨cur,h1,-⟩:=h;exact (Array.getElem?_eq_some_iff.1 h1).1
theorem xy {W X:World} (h:Below W.heap.size W X) (o:Obj):Below W.heap.size W (X.alloc o):=h.alloc h.size o
theorem FJ {W X Y:World} (h:Below W.heap.size W X) (k:Below X.heap.size X Y):Below W.heap.size W Y:=h.trans (k.mono h.size)
def zM:List Value:=[.pointer none,.nilFunc,.slice none 0 0,.slice none 0 0,.slice none 0 0]
def Bq (X:World) (b:Nat):Prop:=Bx X b zM
theorem Bq.new (X:World):Bq (X.alloc (.cells #[.pointer none,.nilFunc,.slice none 0 0,.slice none 0 0,.slice none 0 0] 150)) X.heap.size:=Bx.new X zM 150
theorem Bq.oL (X:World) (o:Obj):Bq ((X.alloc o).alloc (.cells #[.pointer none,.nilFunc,.slice none 0 0,.slice none 0 0,.slice none 0 0] 150)) (X.heap.size+1):=by have:=Bq.new (X.alloc o);rwa [World.size_alloc] at this
theorem Bq.oM (X:World) (o o':Obj):Bq (((X.alloc o).alloc o').alloc (.cells #[.pointer none,.nilFunc,.slice none 0 0,.slice none 0 0,.slice none 0 0] 150)) (X.heap.size+1+1):=by have:=Bq.new ((X.alloc o).alloc o');rwa [World.size_alloc,World.size_alloc] at this
theorem Bq.alloc {X:World} {b:Nat} (h:Bq X b) (o:Obj):Bq (X.alloc o) b:=h.below (below_alloc1 _ _)
theorem Bq.drew {X:World} {b:Nat} (h:Bq X b):Bq X.drew b:=h.below (Below.refl _ _).drew
theorem Bq.call {X Y:World} {b:Nat} (h:Bq X b) (k:Below X.heap.size X Y):Bq Y b:=h.below k
theorem Z9 (a b:Nat) (h:a<=b):a<=b:=h
theorem Bq.cells {X:World} {b:Nat} (h:Bq X b):(X.cell? ⟨b,0,none⟩=some (.pointer none)∧X.cell? ⟨b,1,none⟩=some .nilFunc∧X.cell? ⟨b,2,none⟩=some (.slice none 0 0)∧X.cell? ⟨b,3,none⟩=some (.slice none 0 0)∧X.cell? ⟨b,4,none⟩=some (.slice none 0 0))∧X.frozen? ⟨b,0,none⟩=false∧X.frozen? ⟨b,1,none⟩=false∧X.frozen? ⟨b,2,none⟩=false∧X.frozen? ⟨b,3,none⟩=false∧X.frozen? ⟨b,4,none⟩=false:=
 ⟨⟨h.ae 0 _ rfl,h.ae 1 _ rfl,h.ae 2 _ rfl,h.ae 3 _ rfl,h.ae 4 _ rfl⟩,h.live 0,h.live 1,h.live 2,h.live 3,h.live 4⟩
theorem RR.call {X Y:World} {b n k:Nat} (h:RR X b n k) (c:Below X.heap.size X Y):RR Y b n k:=h.kept (kt (S:=λ_=>True) c) trivial
theorem RR.alloc {X:World} {b n k:Nat} (h:RR X b n k) (o:Obj):RR (X.alloc o) b n k:=h.call (below_alloc1 _ _)
def Cl (X:World) (b:Nat) (v:Value):Prop:=X.cell? ⟨b,0,none⟩=some v
theorem Cl.new (X:World) (v:Value) (t:TypeId):Cl (X.alloc (.cells #[v] t)) X.heap.size v:=by simp [Cl]
theorem Cl.oL (X:World) (o:Obj) (v:Value) (t:TypeId):Cl ((X.alloc o).alloc (.cells #[v] t)) (X.heap.size+1) v:=by have:=Cl.new (X.alloc o) v t;rwa [World.size_alloc] at this
theorem Cl.oM (X:World) (o o':Obj) (v:Value) (t:TypeId):Cl (((X.alloc o).alloc o').alloc (.cells #[v] t)) (X.heap.size+1+1) v:=by have:=Cl.new ((X.alloc o).alloc o') v t;rwa [World.size_alloc,World.size_alloc] at this
theorem Cl.alloc {X:World} {b:Nat} {v:Value} (h:Cl X b v) (o:Obj):Cl (X.alloc o) b v:=((below_alloc1 X o).cell (p:=⟨b,0,none⟩) (block_lt_of_cell h)).trans h
theorem Cl.call {X Y:World} {b:Nat} {v:Value} (h:Cl X b v) (k:Below X.heap.size X Y):Cl Y b v:=(k.cell (p:=⟨b,0,none⟩) (block_lt_of_cell h)).trans h
theorem Cl.drew {X:World} {b:Nat} {v:Value} (h:Cl X b v):Cl X.drew b v:=h
def fM (cp G tb lb nt nl:Nat):List Value:=[.pointer (some ⟨G,0,none⟩),.func (.func 50) #[.pointer (some ⟨cp,0,none⟩)] #[],.slice (some ⟨tb,0,none⟩) nt nt,.slice (some ⟨lb,0,none⟩) nl nl,.slice none 0 0]
theorem RR.at {X:World} {b n:Nat} (h:RR X b n n):(∀k,k < n->X.cell? ⟨b,k,none⟩=some (.int .i64 (-1)))∧∀j,X.frozen? ⟨b,j,none⟩=false:=by
 obtain ⟨cur,h1,h2,h3⟩:=h;refine ⟨λk hk=>?_,λj=>by simp [World.frozen?,h1]⟩
 have:=h3 k hk
 simp [World.cell?,h1,this]
theorem TS {g:Gr} {W X Y:World} {G nb gy cn cm tb lb B lo:Nat} (h:MG g W G nb gy cn cm) (be:Below W.heap.size W X) (rt:RR X tb g.nt g.nt) (rl:RR X lb g.nl g.nl) (htb:W.heap.size<=tb) (hlb:tb < lb) (hB:W.heap.size<=B) (n1:B≠tb) (n2:B≠lb) (k:Kept (λc=>c≠B) X Y) (bx:Bx Y B (fM g.cp G tb lb g.nt g.nl)) (h1:B < lo) (h2:X.heap.size<=lo) (h3:lo<=Y.heap.size):
  MC g W lo G nb gy B tb lb g.nt g.nl cn cm∧MS g W lo G B tb lb g.nt g.nl Y (λ_=>-1) (λ_=>-1) [] (.slice none 0 0):=by
 have l1:=rt.lt;have l2:=rl.lt;refine ⟨⟨h.ok,⟨hB,h1⟩,⟨htb,by omega⟩,⟨by omega,by omega⟩,⟨n1,n2,by omega⟩,⟨Nat.le_refl _,Nat.le_refl _,h.nc.1,h.nc.2⟩,h.n8,h.n9,h.nd,h.wg,h.ls⟩,?_⟩;refine ⟨be.trans (k.below (λd hd=>by omega) be.size),bx,λi hi=>?_,λj=>?_,λi hi=>?_,λj=>?_,⟨rfl,.inl ⟨rfl,rfl⟩⟩,h3⟩
 .rw [k.cell (p:=⟨tb,i,none⟩) l1 (λe=>n1 e.symm)];exact rt.at.1 i hi
 .rw [k.frozen (p:=⟨tb,j,none⟩) l1 (λe=>n1 e.symm)];exact rt.at.2 j
 .rw [k.cell (p:=⟨lb,i,none⟩) l2 (λe=>n2 e.symm)];exact rl.at.1 i hi
 .rw [k.frozen (p:=⟨lb,j,none⟩) l2 (λe=>n2 e.symm)];exact rl.at.2 j
theorem TT {g:Gr} {W X:World} {G nb gy cn cm tb lb B:Nat} (h:MG g W G nb gy cn cm) (be:Below W.heap.size W X) (rt:RR X tb g.nt g.nt) (rl:RR X lb g.nl g.nl) (htb:W.heap.size<=tb) (hlb:tb < lb) (q:Bq X B) (hB:W.heap.size<=B):
  MC g W X.heap.size G nb gy B tb lb g.nt g.nl cn cm∧MS g W X.heap.size G B tb lb g.nt g.nl (((((X.setCell ⟨B,0,none⟩ (.pointer (some ⟨G,0,none⟩))).setCell ⟨B,1,none⟩ (.func (.func 50) #[.pointer (some ⟨g.cp,0,none⟩)] #[])).setCell ⟨B,2,none⟩ (.slice (some ⟨tb,0,none⟩) g.nt g.nt)).setCell ⟨B,3,none⟩ (.slice (some ⟨lb,0,none⟩) g.nl g.nl)).setCell ⟨B,4,none⟩ (.slice none 0 0)) (λ_=>-1) (λ_=>-1) [] (.slice none 0 0):=by
 have c0:=q.ae 0 _ rfl;have n1:B≠tb:=λe=>by
  have:=rt.at.1 0 h.pos.1
  rw [<- e,c0] at this
  cases this
 have n2:B≠lb:=λe=>by
  have:=rl.at.1 0 h.pos.2
  rw [<- e,c0] at this
  cases this
 refine TS h be rt rl htb hlb hB n1 n2 (((((Kept.refl _ _).set (by simp)).set (by simp)).set (by simp)).set (by simp) |>.set (by simp)) ?_ q.lt (Nat.le_refl _) (by simp [World.setCell]);exact ((((Bx.put q 0 _ (by simp [zM])).put 1 _ (by simp [zM])).put 2 _ (by simp [zM])).put 3 _ (by simp [zM])).put 4 _ (by simp [zM])
theorem TU {g:Gr} {W X:World} {G nb gy cn cm tb lb:Nat} (h:MG g W G nb gy cn cm) (be:Below W.heap.size W X) (rt:RR X tb g.nt g.nt) (rl:RR X lb g.nl g.nl) (htb:W.heap.size<=tb) (hlb:tb < lb):
  MC g W (X.heap.size+1) G nb gy X.heap.size tb lb g.nt g.nl cn cm∧MS g W (X.heap.size+1) G X.heap.size tb lb g.nt g.nl (X.alloc (.cells #[.pointer (some ⟨G,0,none⟩),.func (.func 50) #[.pointer (some ⟨g.cp,0,none⟩)] #[],.slice (some ⟨tb,0,none⟩) g.nt g.nt,.slice (some ⟨lb,0,none⟩) g.nl g.nl,.slice none 0 0] 150)) (λ_=>-1) (λ_=>-1) [] (.slice none 0 0):=
 TS h be rt rl htb hlb be.size (Nat.ne_of_gt rt.lt) (Nat.ne_of_gt rl.lt) (Kept.alloc _ _ _) (Bx.new X (fM g.cp G tb lb g.nt g.nl) 150) (Nat.lt_succ_self _) (Nat.le_succ _) (by simp)
theorem AP:∀(L U:List Nat),L.Nodup->(∀a∈L,a∈U)->L.length<=U.length
 | [],_,_,_=>Nat.zero_le _
 | a ::L,U,hn,hs=>by
  have ha:=hs a List.mem_cons_self;have h2:=AP L (U.erase a) (List.nodup_cons.1 hn).2 (λb hb=>by
   have hne:b≠a:=λe=>(List.nodup_cons.1 hn).1 (e▸hb)
   exact (List.mem_erase_of_ne hne).2 (hs b (List.mem_cons_of_mem _ hb)))
  have h3:=List.length_erase_of_mem ha;have h4:=List.length_pos_of_mem ha;rw [List.length_cons];omega
theorem Gr.MI.len {g:Gr} {T L:Nat->Int} {st:List (Nat×Nat)} (h:g.MI T L st):st.length<=g.nl:=by
 have:=AP (st.map Prod.fst) (List.range g.nl) h.distinct (λa ha=>by
  obtain ⟨e,he,rfl⟩:=List.mem_map.1 ha;exact List.mem_range.2 (h.op e he).1)
 simpa using this
def BI (g:Gr) (W:World) (lo G B tb lb:Nat) (i:Nat) (wr:World):Prop:=
 ∃T L sv,g.MI T L []∧MS g W lo G B tb lb g.nt g.nl wr T L [] sv∧((sv=.slice none 0 0)∨∃b cap,sv=.slice (some ⟨b,0,none⟩) 0 cap)∧∀j,j < i->L j≠-1
def CI (g:Gr) (W:World) (lo G B tb lb:Nat) (i:Nat) (wr:World) (k:Nat):Prop:=
 ∃T L st sv,g.MI T L st∧MS g W lo G B tb lb g.nt g.nl wr T L st sv∧(sv=.slice none 0 0∧st=[]∨∃b cap,sv=.slice (some ⟨b,0,none⟩) st.length cap)∧(∀j,j < i->L j≠-1)∧k=g.left L st
theorem IA {g:Gr} {W:World} {G nb gy cn cm:Nat} (h:MG g W G nb gy cn cm):
  Calls Tryz.prog 49 #[.pointer (some ⟨G,0,none⟩),.func (.func 50) #[.pointer (some ⟨g.cp,0,none⟩)] #[]] W λe W'=>∃lb,e=.returned (.slice (some ⟨lb,0,none⟩) g.nl g.nl)∧W.heap.size<=lb∧(∀l,l < g.nl->W'.cell? ⟨lb,l,none⟩=some (.int .i64 (g.sL l)))∧Below W.heap.size W W':=by
 have HH:=hide h;have g8:=h.n8;have g9:=h.n9;have HS:Hid (∀V,Below W.heap.size W V->V.cell? ⟨G,8,none⟩=some (.slice (some ⟨nb,0,none⟩) g.nt cn)∧V.cell? ⟨G,9,none⟩=some (.slice (some ⟨gy,0,none⟩) g.nl cm)):=λV hV=>⟨(hV.cell (block_lt_of_cell h.n8)).trans h.n8,(hV.cell (block_lt_of_cell h.n9)).trans h.n9⟩
 have HDR:Hid (Below W.heap.size W W.drew):=(Below.refl _ _).drew;have k0:=HS.out W.drew HDR.out;have HL:Hid ((1<=g.nt∧g.nt<=10000000)∧1<=g.nl∧g.nl<=10000000):=⟨⟨h.pos.1,h.ok.lim.2⟩,h.pos.2,h.ok.lim.1⟩
 clear h;go_enter Tryz.func49,Tryz.ntmps49
 go_upto_region 1 with fail
 have Sk:Hid (Below W.heap.size W W):=Below.refl _ _;go_cut [5] (λt wx=>∃B tb lb lo,t=.pointer (some ⟨B,0,none⟩)∧MC g W lo G nb gy B tb lb g.nt g.nl cn cm∧MS g W lo G B tb lb g.nt g.nl wx (λ_=>-1) (λ_=>-1) [] (.slice none 0 0))
 case first=>
  go_region_held3 (λV=>V.cell? ⟨G,8,none⟩=some (.slice (some ⟨nb,0,none⟩) g.nt cn)∧V.cell? ⟨G,9,none⟩=some (.slice (some ⟨gy,0,none⟩) g.nl cm))
  (first | (refine HS.out _ ?_;((repeat first | with_reducible exact BC.out | with_reducible exact xz.out | with_reducible exact HDR.out | with_reducible exact Sk.out | with_reducible refine xy ?_ _ | with_reducible refine Below.drew ?_ | with_reducible refine Below.setCell ?_ ?_ _ | with_reducible exact Nat.le_refl _ | with_reducible exact Nat.le_succ _ | with_reducible exact Nat.le_succ_of_le (Nat.le_succ _) | with_reducible exact xz.out.size | with_reducible exact Nat.le_succ_of_le xz.out.size | with_reducible exact BC.out.size);done)) | fail)
  (first
   | (go_at_call_of 72 (Value.int .i64 (g.nt:Int));refine (Ca g.nt _ HL.out.1.1 HL.out.1.2 _ (show Cl _ _ _ from ?_)).mono ?_;(focus ((repeat first | with_reducible exact c10.out | with_reducible exact c11.out | with_reducible exact c12.out | with_reducible exact Cl.new _ _ _ | with_reducible exact Cl.oL _ _ _ _ | with_reducible exact Cl.oM _ _ _ _ _ | with_reducible refine Cl.drew ?_ | with_reducible refine Cl.alloc ?_ _);done));rintro e w1 ⟨tb,rfl,b1,r1',bx1⟩;have r1:=hide r1';refine (λ(xz:Hid (Below W.heap.size W w1))=>?_) (FJ ?_ bx1);rotate_left;(focus ((repeat first | with_reducible exact BC.out | with_reducible exact xz.out | with_reducible exact HDR.out | with_reducible exact Sk.out | with_reducible refine xy ?_ _ | with_reducible refine Below.drew ?_ | with_reducible refine Below.setCell ?_ ?_ _ | with_reducible exact Nat.le_refl _ | with_reducible exact Nat.le_succ _ | with_reducible exact Nat.le_succ_of_le (Nat.le_succ _) | with_reducible exact xz.out.size | with_reducible exact Nat.le_succ_of_le xz.out.size | with_reducible exact BC.out.size);done));have Sl:Hid (W.heap.size<=tb):=Nat.le_trans (Z9 _ _ (by simp <;> omega)) b1;(first | (refine (λ(c10:Hid (Cl w1 (W.heap.size) (.int .i64 (-1))))=>?_) (Cl.call ?_ bx1);rotate_left;focus ((repeat first | with_reducible exact c10.out | with_reducible exact c11.out | with_reducible exact c12.out | with_reducible exact Cl.new _ _ _ | with_reducible exact Cl.oL _ _ _ _ | with_reducible exact Cl.oM _ _ _ _ _ | with_reducible refine Cl.drew ?_ | with_reducible refine Cl.alloc ?_ _);done)) | skip);(first | (refine (λ(FK:Hid (Bq w1 (W.heap.size)))=>?_) (Bq.call ?_ bx1);rotate_left;focus ((repeat first | with_reducible exact FK.out | with_reducible exact FL.out | with_reducible exact FM.out | with_reducible exact Bq.new _ | with_reducible exact Bq.oL _ _ | with_reducible exact Bq.oM _ _ _ | with_reducible refine Bq.drew ?_ | with_reducible refine Bq.alloc ?_ _);done)) | skip);(first | (refine (λ(c11:Hid (Cl w1 (W.heap.size+1) (.int .i64 (-1))))=>?_) (Cl.call ?_ bx1);rotate_left;focus ((repeat first | with_reducible exact c10.out | with_reducible exact c11.out | with_reducible exact c12.out | with_reducible exact Cl.new _ _ _ | with_reducible exact Cl.oL _ _ _ _ | with_reducible exact Cl.oM _ _ _ _ _ | with_reducible refine Cl.drew ?_ | with_reducible refine Cl.alloc ?_ _);done)) | skip);(first | (refine (λ(FL:Hid (Bq w1 (W.heap.size+1)))=>?_) (Bq.call ?_ bx1);rotate_left;focus ((repeat first | with_reducible exact FK.out | with_reducible exact FL.out | with_reducible exact FM.out | with_reducible exact Bq.new _ | with_reducible exact Bq.oL _ _ | with_reducible exact Bq.oM _ _ _ | with_reducible refine Bq.drew ?_ | with_reducible refine Bq.alloc ?_ _);done)) | skip);(first | (refine (λ(c12:Hid (Cl w1 (W.heap.size+1+1) (.int .i64 (-1))))=>?_) (Cl.call ?_ bx1);rotate_left;focus ((repeat first | with_reducible exact c10.out | with_reducible exact c11.out | with_reducible exact c12.out | with_reducible exact Cl.new _ _ _ | with_reducible exact Cl.oL _ _ _ _ | with_reducible exact Cl.oM _ _ _ _ _ | with_reducible refine Cl.drew ?_ | with_reducible refine Cl.alloc ?_ _);done)) | skip);(first | (refine (λ(FM:Hid (Bq w1 (W.heap.size+1+1)))=>?_) (Bq.call ?_ bx1);rotate_left;focus ((repeat first | with_reducible exact FK.out | with_reducible exact FL.out | with_reducible exact FM.out | with_reducible exact Bq.new _ | with_reducible exact Bq.oL _ _ | with_reducible exact Bq.oM _ _ _ | with_reducible refine Bq.drew ?_ | with_reducible refine Bq.alloc ?_ _);done)) | skip);clear r1' b1 bx1)
   | (go_at_call_of 72 (Value.int .i64 (g.nl:Int));refine (Ca g.nl _ HL.out.2.1 HL.out.2.2 _ (show Cl _ _ _ from ?_)).mono ?_;(focus ((repeat first | with_reducible exact c10.out | with_reducible exact c11.out | with_reducible exact c12.out | with_reducible exact Cl.new _ _ _ | with_reducible exact Cl.oL _ _ _ _ | with_reducible exact Cl.oM _ _ _ _ _ | with_reducible refine Cl.drew ?_ | with_reducible refine Cl.alloc ?_ _);done));rintro e w2 ⟨lb,rfl,b2,r2',yl⟩;have r2:=hide r2';refine (λ(BC:Hid (Below W.heap.size W w2))=>?_) (FJ ?_ yl);rotate_left;(focus ((repeat first | with_reducible exact BC.out | with_reducible exact xz.out | with_reducible exact HDR.out | with_reducible exact Sk.out | with_reducible refine xy ?_ _ | with_reducible refine Below.drew ?_ | with_reducible refine Below.setCell ?_ ?_ _ | with_reducible exact Nat.le_refl _ | with_reducible exact Nat.le_succ _ | with_reducible exact Nat.le_succ_of_le (Nat.le_succ _) | with_reducible exact xz.out.size | with_reducible exact Nat.le_succ_of_le xz.out.size | with_reducible exact BC.out.size);done));refine (λ(r3:Hid (RR w2 tb g.nt g.nt))=>?_) (RR.call ?_ yl);rotate_left;(focus ((repeat first | with_reducible exact r1.out | with_reducible refine RR.drew ?_ | with_reducible refine RR.alloc ?_ _);done));have lb1:Hid (w1.heap.size<=lb):=Nat.le_trans (Z9 _ _ (by simp <;> omega)) b2;(first | (refine (λ(q2:Hid (Bq w2 (W.heap.size)))=>?_) (Bq.call ?_ yl);rotate_left;(focus ((repeat first | with_reducible exact FK.out | with_reducible exact FL.out | with_reducible exact FM.out | with_reducible exact Bq.new _ | with_reducible exact Bq.oL _ _ | with_reducible exact Bq.oM _ _ _ | with_reducible refine Bq.drew ?_ | with_reducible refine Bq.alloc ?_ _);done));have q3:=q2.out.cells;have q4:=q2.out.drew.cells) | skip);(first | (refine (λ(q2:Hid (Bq w2 (W.heap.size+1)))=>?_) (Bq.call ?_ yl);rotate_left;(focus ((repeat first | with_reducible exact FK.out | with_reducible exact FL.out | with_reducible exact FM.out | with_reducible exact Bq.new _ | with_reducible exact Bq.oL _ _ | with_reducible exact Bq.oM _ _ _ | with_reducible refine Bq.drew ?_ | with_reducible refine Bq.alloc ?_ _);done));have q3:=q2.out.cells;have q4:=q2.out.drew.cells) | skip);(first | (refine (λ(q2:Hid (Bq w2 (W.heap.size+1+1)))=>?_) (Bq.call ?_ yl);rotate_left;(focus ((repeat first | with_reducible exact FK.out | with_reducible exact FL.out | with_reducible exact FM.out | with_reducible exact Bq.new _ | with_reducible exact Bq.oL _ _ | with_reducible exact Bq.oM _ _ _ | with_reducible refine Bq.drew ?_ | with_reducible refine Bq.alloc ?_ _);done));have q3:=q2.out.cells;have q4:=q2.out.drew.cells) | skip);(first | (refine (λ(q2:Hid (Bq w2 (w1.heap.size)))=>?_) (Bq.call ?_ yl);rotate_left;(focus ((repeat first | with_reducible exact FK.out | with_reducible exact FL.out | with_reducible exact FM.out | with_reducible exact Bq.new _ | with_reducible exact Bq.oL _ _ | with_reducible exact Bq.oM _ _ _ | with_reducible refine Bq.drew ?_ | with_reducible refine Bq.alloc ?_ _);done));have q3:=q2.out.cells;have q4:=q2.out.drew.cells) | skip);(first | (refine (λ(q2:Hid (Bq w2 (w1.heap.size+1)))=>?_) (Bq.call ?_ yl);rotate_left;(focus ((repeat first | with_reducible exact FK.out | with_reducible exact FL.out | with_reducible exact FM.out | with_reducible exact Bq.new _ | with_reducible exact Bq.oL _ _ | with_reducible exact Bq.oM _ _ _ | with_reducible refine Bq.drew ?_ | with_reducible refine Bq.alloc ?_ _);done));have q3:=q2.out.cells;have q4:=q2.out.drew.cells) | skip);clear r2' b2 yl))
  all_goals
   have hlt:tb < lb:=Nat.lt_of_lt_of_le r1.out.lt lb1.out;go_wp2_with fail;go_meet
   case rel=>
    first
     | (have z:=TU HH.out BC.out r3.out r2.out Sl.out hlt;exact ⟨_,_,_,_,rfl,z.1,z.2⟩)
     | (have z:=TU HH.out BC.out r3.out r2.out Sl.out hlt;exact ⟨_,_,_,_,rfl,z.1,z.2.kept z.1 (Kept.drew _ _)⟩)
     | (have z:=TT HH.out BC.out r3.out r2.out Sl.out hlt q2.out (by (first | exact Nat.le_refl _ | exact Nat.le_succ _ | exact Nat.le_succ_of_le (Nat.le_succ _) | exact xz.out.size | exact Nat.le_succ_of_le xz.out.size));exact ⟨_,_,_,_,rfl,z.1,z.2⟩)
     | (have z:=TT HH.out BC.out r3.out r2.out Sl.out hlt q2.out (by (first | exact Nat.le_refl _ | exact Nat.le_succ _ | exact Nat.le_succ_of_le (Nat.le_succ _) | exact xz.out.size | exact Nat.le_succ_of_le xz.out.size));exact ⟨_,_,_,_,rfl,z.1,z.2.kept z.1 (Kept.drew _ _)⟩)
 case rest=>
 obtain ⟨B,tb,lb,lo,rfl,hMC,VZ⟩:=hcut
 rename World=>v1
 have HC:=hide hMC;have HB0:Hid (BI g W lo G B tb lb 0 v1):=⟨_,_,_,⟨λ_ _=>.inl rfl,λ_ _=>.inl rfl,λe he=>(by cases he),trivial⟩,VZ,.inl rfl,λj hj=>by omega⟩
 have c3:=VZ.bx.ae 3 _ rfl;have hnl:g.nl<=10000000:=HL.out.2.2;clear hMC VZ k0 g8 g9 Sk HDR;go_wp2_with fail
 go_loopw [28] (λV7 wr=>∃i:Nat,V7=.int .i64 (i:Int)∧i<=g.nl∧BI g W lo G B tb lb i wr) (λV7 wr=>g.nl - (intOf V7).toNat)
 case atStart=>exact ⟨0,rfl,Nat.zero_le _,HB0.out⟩
 case round=>
  clear c3 HB0;obtain ⟨i,rfl,hi,T,L,sv,hI,hM,hsv,hL⟩:=hrel;have HI:=hide hI;have HM:=hide hM;have V8:=hide hsv;have sZ:=hide hL;clear hI hM hsv hL
  by_cases hlt:(i:Int) < (g.nl:Int)
  .have hlt':i < g.nl:=by omega
   have l1:=HM.out.lr i hlt'
   by_cases IX:L i=-1
   .have hb:(L i==-1)=true:=by simp [IX]
    have Oo:Hid (Calls Tryz.prog 73 #[.pointer (some ⟨B,0,none⟩),.int .i64 i] wr λe V'=>e=.returned (.tuple #[])∧∃k,CI g W lo G B tb lb (i+1) V' k):=(yN HC.out HM.out i hlt' (Nat.zero_le _)).mono (by
     rintro e V' ⟨rfl,b,cap,h3⟩;refine ⟨rfl,_,T,_,_,_,HI.out.first hlt' _,h3,.inr ⟨b,cap,rfl⟩,λj hj=>?_,rfl⟩
     by_cases e:j=i
     .rw [e,upd_same];omega
     .rw [upd_ne _ _ e];exact sZ.out j (by omega))
    clear IX;go_wp2_with fail;refine Oo.out.mono ?_;rintro e w3 ⟨rfl,hk⟩;have HK:=hide hk;clear hk l1 HI HM V8 sZ hb Oo;go_wp2_with fail;exact zz10
   .have hb:(L i==-1)=false:=by simp [IX]
    have HK:Hid (∃k,CI g W lo G B tb lb (i+1) wr k):=⟨_,T,L,[],sv,HI.out,HM.out,(by
     rcases V8.out with h | ⟨b,cap,h⟩
     .exact .inl ⟨h,rfl⟩
     .exact .inr ⟨b,cap,h⟩),λj hj=>(by
      by_cases e:j=i
      .rw [e];exact IX
      .exact sZ.out j (by omega)),rfl⟩
    clear HI HM V8 sZ IX;go_wp2_with fail;clear hb l1;exact zz10
  .have hie:i=g.nl:=by omega
   have c3:=HM.out.bx.ae 3 _ rfl;have HF:Hid (∀l,l < g.nl->wr.cell? ⟨lb,l,none⟩=some (.int .i64 (g.sL l))):=λl hl=>by
    have h1:=HM.out.lr l hl;rcases HI.out.IL l hl with h2 | h2 | h2
    .exact absurd h2 (sZ.out l (by omega))
    .rw [h2] at h1;exact h1
    .cases h2
   have Dm:=hide HM.out.be;have sW:Hid (W.heap.size<=lb):=HC.out.hl.1;go_wp2_with fail;go_ret;exact ⟨lb,rfl,sW.out,HF.out,Dm.out⟩
theorem zz188 {P:Prop} (h:P:=by
 rcases gi.pd d hd with e | e | e
 .cases e
 .cases e
 .exact e):P:=h
theorem AO (s:Nat->Nat) (f:Nat):∀n,gT s f (n+1)=s f+gT s (f+1) n
 | 0=>by simp [gT]
 | n+1=>by
  have:=AO s f n
  rw [gT,this,gT,show f+(n+1)=f+1+n from by omega];omega
theorem uL (s:Nat->Nat):∀(L:List Nat) (f:Nat),(∀j v,L[j]? =some v->s (f+j)=v)->gT s f L.length=L.sum
 | [],_,_=>rfl
 | x ::L,f,h=>by
  rw [List.length_cons,AO,List.sum_cons,uL s L (f+1) (λj v hj=>by rw [show f+1+j=f+(j+1) from by omega];exact h (j+1) v (by simpa using hj)),show s f=x from h 0 x rfl]
mutual
def pY:Fo->Nat
 | .v _ (.v _ (.v _ (.s _ ln _ _ (.s _ nn _ _ (.s _ _ _ kk (.s _ _ _ ak r))))))=>(1+nn+ln)+pY kk+vS ak+pY r
 | _=>0
def vS:Fo->Nat
 | .v _ (.s _ cn _ _ (.v _ (.v _ (.v _ (.s _ ln _ _ (.s _ nn _ _ (.s _ _ _ kk (.s _ _ _ ak r))))))))=>(1+nn+ln+cn)+pY kk+vS ak+vS r
 | _=>0
end
theorem nZ:pY .nil=0:=by rw [pY];intros;contradiction
theorem vT:vS .nil=0:=by rw [vS];intros;contradiction
theorem yA (k nm mn:Value) (la na ka aa:Option Addr) (ln lc nn nc kn kc an ac:Nat) (lk nk kk ak r:Fo):
  pY (.v k (.v nm (.v mn (.s la ln lc lk (.s na nn nc nk (.s ka kn kc kk (.s aa an ac ak r)))))))=(1+nn+ln)+pY kk+vS ak+pY r:=by rw [pY]
theorem JN (au:Value) (ca:Option Addr) (cn cc:Nat) (ck:Fo) (k nm mn:Value) (la na ka aa:Option Addr) (ln lc nn nc kn kc an ac:Nat) (lk nk kk ak r:Fo):
  vS (.v au (.s ca cn cc ck (.v k (.v nm (.v mn (.s la ln lc lk (.s na nn nc nk (.s ka kn kc kk (.s aa an ac ak r)))))))))=(1+nn+ln+cn)+pY kk+vS ak+vS r:=by rw [vS]
def IU:Fo->Nat
 | .v _ (.v _ (.v _ (.s _ ln _ _ (.s _ nn _ _ _))))=>1+nn+ln
 | _=>1
def tF:Fo->List Nat
 | .v _ (.s _ cn _ _ (.v _ (.v _ (.v _ (.s _ _ _ _ (.s _ _ _ _ (.s _ _ _ _ (.s _ _ _ _ r))))))))=>cn ::tF r
 | _=>[]
def sj (O:Nat->Nat) (KK AA:List (Nat×Nat)) (KR AR:List Fo):List Nat:=(bY O KK KR).map (λ_=>0)++(AA.zip AR).flatMap (λp=>tF p.2)
theorem vU (b:Nat):∀(n o:Nat) (F:Fo),Fit E F (rep (E 2) n)->(tF F).length=n∧(List.zipWith (λ(d:Nd) c=>pY d.x+c) (aJ b o F) (tF F)).sum=vS F
 | 0,o,F,h=>by rw [ai h,vT];simp [tF,aJ]
 | n+1,o,F,h=>by
  obtain ⟨x,q,rfl,hx,hq,hl⟩:=Fit.split (fs:=E 2) (gs:=rep (E 2) n) h;obtain ⟨g1,g2⟩:=vU b n (o+9) q hq;obtain ⟨au,ca,cn,cc,ck,y,rfl,-,hck,hy⟩:=aK hx;obtain ⟨k,nm,mn,la,ln,lc,lk,na,nn,nc,nk,ka,kn,kc,kk,aa,an,ac,ak,rfl,-⟩:=ag hy;simp only [Fo.app,aJ,tF,List.zipWith_cons_cons,List.sum_cons,List.length_cons,g1,g2,JN,yA,nZ];exact ⟨trivial,by omega⟩
theorem Z7 (b:Nat):∀(n o:Nat) (F:Fo),Fit E F (rep (E 3) n)->((aS b o F).map (λd=>pY d.x)).sum=pY F
 | 0,o,F,h=>by rw [ai h,nZ];simp [aS]
 | n+1,o,F,h=>by
  obtain ⟨x,q,rfl,hx,hq,hl⟩:=Fit.split (fs:=E 3) (gs:=rep (E 3) n) h;have g1:=Z7 b n (o+7) q hq;obtain ⟨k,nm,mn,la,ln,lc,lk,na,nn,nc,nk,ka,kn,kc,kk,aa,an,ac,ak,rfl,-⟩:=ag hx;simp only [Fo.app,aS,List.map_cons,List.sum_cons,g1,yA,nZ];omega
def ny (LS PQ:List (Nat×Nat)) (ND:List Nd) (ex:List Nat) (cp:Nat):Gr where
 nl:=LS.length
 nt:=ND.length
 fst:=λl=>(LS.getD l (0,0)).1
 cnt:=λl=>(LS.getD l (0,0)).2
 pl:=λk=>(PQ.getD k (0,0)).1
 ql:=λk=>(PQ.getD k (0,0)).2
 sT:=λk=>match ND[k]? with
  | some d=>pY d.x+ex.getD k 0
  | none=>0
 w:=λk=>match ND[k]? with
  | some d=>IU d.x+ex.getD k 0
  | none=>1
 cp:=cp
theorem getD_some {α:Type} {L:List α} {i:Nat} {x d:α} (h:L[i]? =some x):L.getD i d=x:=by simp [List.getD,h]
section
variable {O:Nat->Nat} {W A7 w:World} {lo G wb M0:Nat} {KK AA:List (Nat×Nat)} {KR AR:List Fo} {mk sk ma sa:Value} {tk ta tot:Nat} {LS:List (Nat×Nat)} {lv nv:Value} {PQ:List (Nat×Nat)}
theorem IV {LS PQ:List (Nat×Nat)} {ND:List Nd} {ex:List Nat} {cp k:Nat} {d:Nd} (h:ND[k]? =some d):(ny LS PQ ND ex cp).sT k=pY d.x+ex.getD k 0:=by simp [ny,h]
theorem OW {LS PQ:List (Nat×Nat)} {ND:List Nd} {ex:List Nat} {cp k:Nat} {d:Nd} (h:ND[k]? =some d):(ny LS PQ ND ex cp).w k=IU d.x+ex.getD k 0:=by simp [ny,h]
theorem flat_get {α β:Type} (f:α->List β):∀(L:List α) (i j:Nat) (x:α) (d:β),L[i]? =some x->(f x)[j]? =some d->(L.flatMap f)[((L.take i).map (λx=>(f x).length)).sum+j]? =some d
 | [],i,j,x,d,h,_=>by simp at h
 | y ::L,0,j,x,d,h,h2=>by
  have e:y=x:=by simpa using h
  subst e;simp only [List.take_zero,List.map_nil,List.sum_nil,Nat.zero_add,List.flatMap_cons];exact pU h2
 | y ::L,i+1,j,x,d,h,h2=>by
  have ih:=flat_get f L i j x d (by simpa using h) h2;simp only [List.take_succ_cons,List.map_cons,List.sum_cons,List.flatMap_cons];rw [List.getElem?_append_right (by omega),show (f y).length+((L.take i).map (λx=>(f x).length)).sum+j - (f y).length=((L.take i).map (λx=>(f x).length)).sum+j from by omega];exact ih
theorem GI.MR (gi:GI O A7 (SB A7 lo G wb) KK AA KR AR [] [] [] 0 tot) {i j:Nat} {e:Nat×Nat} {r:Fo} {d:Nd} (h1:KK[i]? =some e) (h2:KR[i]? =some r) (h3:(aS e.1 (O e.1) r)[j]? =some d):(bY O KK KR)[K.off KK i+j]? =some d:=by
 have:=flat_get (λp:(Nat×Nat)×Fo=>aS p.1.1 (O p.1.1) p.2) (KK.zip KR) i j (e,r) d (nU h1 h2) h3
 rw [mo (λx=>(aS x.1.1 (O x.1.1) x.2).length) KK KR i gi.lk (λk a b e1 e2=>gi.BS e1 e2)] at this;exact this
theorem GI.MJ (gi:GI O A7 (SB A7 lo G wb) KK AA KR AR [] [] [] 0 tot) {i j:Nat} {e:Nat×Nat} {r:Fo} {d:Nd} (h1:AA[i]? =some e) (h2:AR[i]? =some r) (h3:(aJ e.1 (O e.1) r)[j]? =some d):(bY O KK KR++dw O AA AR)[K.off KK KK.length+A.off AA i+j]? =some d:=by
 have:=flat_get (λp:(Nat×Nat)×Fo=>aJ p.1.1 (O p.1.1) p.2) (AA.zip AR) i j (e,r) d (nU h1 h2) h3
 rw [mo (λx=>(aJ x.1.1 (O x.1.1) x.2).length) AA AR i gi.la (λk a b e1 e2=>gi.BU e1 e2)] at this;rw [<- gi.qV,List.getElem?_append_right (by omega),show (bY O KK KR).length+A.off AA i+j - (bY O KK KR).length=A.off AA i+j from by omega];exact this
theorem JO {O:Nat->Nat} {KK AA:List (Nat×Nat)} {KR AR:List Fo} {k:Nat} (h:k < (bY O KK KR).length):(sj O KK AA KR AR).getD k 0=0:=by
 unfold sj;rw [List.getD_eq_getElem?_getD,List.getElem?_append_left (by simpa using h),List.getElem?_map]
 cases (bY O KK KR)[k]? <;> rfl
theorem GI.TP (gi:GI O A7 (SB A7 lo G wb) KK AA KR AR [] [] [] 0 tot) {i j:Nat} {e:Nat×Nat} {r:Fo} {c:Nat} (h1:AA[i]? =some e) (h2:AR[i]? =some r) (h3:(tF r)[j]? =some c):(sj O KK AA KR AR).getD (K.off KK KK.length+A.off AA i+j) 0=c:=by
 have:=flat_get (λp:(Nat×Nat)×Fo=>tF p.2) (AA.zip AR) i j (e,r) c (nU h1 h2) h3
 rw [mo (λx=>(tF x.2).length) AA AR i gi.la (λk a b e1 e2=>by
  have:=(vU 0 a.2 0 b (gi.fa k a b e1 e2).1).1
  exact this)] at this
 change (List.flatMap (λp=>tF p.snd) (AA.zip AR))[A.off AA i+j]? =some c at this
 unfold sj;rw [List.getD_eq_getElem?_getD,List.getElem?_append_right (by rw [List.length_map,gi.qV];omega),List.length_map,gi.qV,show K.off KK KK.length+A.off AA i+j - K.off KK KK.length=A.off AA i+j from by omega,this];rfl
theorem GI.TQ (gi:GI O A7 (SB A7 lo G wb) KK AA KR AR [] [] [] 0 tot) (LS PQ:List (Nat×Nat)) (cp:Nat) {i:Nat} {e:Nat×Nat} {r:Fo} (h1:KK[i]? =some e) (h2:KR[i]? =some r):gT (ny LS PQ (bY O KK KR++dw O AA AR) (sj O KK AA KR AR) cp).sT (K.off KK i) e.2=pY r:=by
 have hl:=gi.BS h1 h2;have p2:=Z7 e.1 e.2 (O e.1) r (gi.fk i e r h1 h2).1;have hp:=uL (ny LS PQ (bY O KK KR++dw O AA AR) (sj O KK AA KR AR) cp).sT ((aS e.1 (O e.1) r).map (λd=>pY d.x)) (K.off KK i) (λj v hv=>by
  rw [List.getElem?_map] at hv
  cases hd:(aS e.1 (O e.1) r)[j]? with
  | none=>rw [hd] at hv;cases hv
  | some d=>
   rw [hd] at hv;rw [<- Option.some.inj hv];have hk:=gi.MR h1 h2 hd;rw [IV (pU hk),JO (List.getElem?_eq_some_iff.1 hk).1,Nat.add_zero])
 rw [List.length_map,hl,p2] at hp;exact hp
theorem GI.TR (gi:GI O A7 (SB A7 lo G wb) KK AA KR AR [] [] [] 0 tot) (LS PQ:List (Nat×Nat)) (cp:Nat) {i:Nat} {e:Nat×Nat} {r:Fo} (h1:AA[i]? =some e) (h2:AR[i]? =some r):gT (ny LS PQ (bY O KK KR++dw O AA AR) (sj O KK AA KR AR) cp).sT (K.off KK KK.length+A.off AA i) e.2=vS r:=by
 have hl:=gi.BU h1 h2;have hfa:=(gi.fa i e r h1 h2).1;obtain ⟨x1,x2⟩:=vU e.1 e.2 (O e.1) r hfa;have hp:=uL (ny LS PQ (bY O KK KR++dw O AA AR) (sj O KK AA KR AR) cp).sT (List.zipWith (λ(d:Nd) c=>pY d.x+c) (aJ e.1 (O e.1) r) (tF r)) (K.off KK KK.length+A.off AA i) (λj v hv=>by
  rw [List.getElem?_zipWith] at hv
  cases hd:(aJ e.1 (O e.1) r)[j]? with
  | none=>rw [hd] at hv;cases hv
  | some d=>
   cases hc:(tF r)[j]? with
   | none=>rw [hd,hc] at hv;cases hv
   | some c=>
    rw [hd,hc] at hv;rw [<- Option.some.inj hv];rw [IV (gi.MJ h1 h2 hd),gi.TP h1 h2 hc])
 rw [List.length_zipWith,hl,x1,Nat.min_self,x2] at hp;exact hp
theorem JP {KK:List (Nat×Nat)} {KR:List Fo} (h:KR.length=KK.length) {i:Nat} {e:Nat×Nat} (h1:KK[i]? =some e):∃r,KR[i]? =some r:=⟨_,List.getElem?_eq_getElem (by rw [h];exact (List.getElem?_eq_some_iff.1 h1).1)⟩
theorem FI {KK:List (Nat×Nat)} (h:(KK.map Prod.fst).Nodup) {i j:Nat} {e f:Nat×Nat} (h1:KK[i]? =some e) (h2:KK[j]? =some f) (he:e.1=f.1):i=j:=by
 refine (List.getElem?_inj (l:=KK.map Prod.fst) (by rw [List.length_map];exact (List.getElem?_eq_some_iff.1 h1).1) h).1 ?_;rw [List.getElem?_map,List.getElem?_map,h1,h2];simp [he]
theorem Si (gi:GI O A7 (SB A7 lo G wb) KK AA KR AR [] [] [] 0 tot) (ht:tot<=4000000) (LS PQ:List (Nat×Nat)) (cp:Nat) {d:Nd} (hd:d∈bY O KK KR++dw O AA AR) {x:Nat×Nat} (hx:KX O KK (kA d.x) (kN d.x) x):gT (ny LS PQ (bY O KK KR++dw O AA AR) (sj O KK AA KR AR) cp).sT x.1 x.2=pY (kF d.x):=by
 have hf:=(gi.ok d hd).1.fit;have hdn:Done O KK KR AA AR d.x:=by
  exact zz188
 rcases hx with ⟨h0,rfl⟩ | ⟨k,b,h1,h2,h3,rfl⟩
 .obtain ⟨kd,nm,mn,la,ln,lc,lk,na,nn,nc,nk,ka,kn,kc,kk,aa,an,ac,ak,e,-,-,-,-,f5,-⟩:=ag hf
  rw [e] at h0 ⊢;simp only [kN] at h0;subst h0;rw [show kF _=kk from rfl,ai f5,nZ];rfl
 .obtain ⟨i,b',g1,g2,g3⟩:=hdn.k h3
  have eb:b=b':=by rw [h1] at g1;injection g1 with g1;injection g1
  have ei:=FI (gi.Ij ht).nk h2 g2 eb;subst ei;have hs:=gi.TQ LS PQ cp h2 g3;exact hs
theorem Sj (gi:GI O A7 (SB A7 lo G wb) KK AA KR AR [] [] [] 0 tot) (ht:tot<=4000000) (LS PQ:List (Nat×Nat)) (cp:Nat) {d:Nd} (hd:d∈bY O KK KR++dw O AA AR) {x:Nat×Nat} (hx:AX O KK AA (aA d.x) (aN d.x) x):gT (ny LS PQ (bY O KK KR++dw O AA AR) (sj O KK AA KR AR) cp).sT x.1 x.2=vS (aF d.x):=by
 have hf:=(gi.ok d hd).1.fit;have hdn:Done O KK KR AA AR d.x:=by
  exact zz188
 rcases hx with ⟨h0,rfl⟩ | ⟨k,b,h1,h2,h3,rfl⟩
 .obtain ⟨kd,nm,mn,la,ln,lc,lk,na,nn,nc,nk,ka,kn,kc,kk,aa,an,ac,ak,e,-,-,-,-,-,f6⟩:=ag hf
  rw [e] at h0 ⊢;simp only [aN] at h0;subst h0;rw [show aF _=ak from rfl,ai f6,vT];rfl
 .obtain ⟨i,b',g1,g2,g3⟩:=hdn.a h3
  have eb:b=b':=by rw [h1] at g1;injection g1 with g1;injection g1
  have ei:=FI (gi.Ij ht).na h2 g2 eb;subst ei;have hs:=gi.TR LS PQ cp h2 g3;exact hs
theorem Dw {LS PQ:List (Nat×Nat)} {ND:List Nd} {ex:List Nat} {cp l:Nat} {x:Nat×Nat} (h:LS[l]? =some x):(ny LS PQ ND ex cp).sL l=gT (ny LS PQ ND ex cp).sT x.1 x.2:=by
 unfold Gr.sL;simp only [ny,getD_some h]
theorem OX:∀(m:Nat) (F:Fo) (n:Nat),F.size<=m->(Fit E F (rep (E 3) n)->pY F<=n+F.wt)∧(Fit E F (rep (E 2) n)->vS F<=n+F.wt):=by
 intro m
 induction m with
 | zero=>
  intro F n h
  cases F with
  | nil=>rw [nZ,vT];exact ⟨λ_=>Nat.zero_le _,λ_=>Nat.zero_le _⟩
  | v x r=>simp only [Fo.size] at h;omega
  | s a n c ks r=>simp only [Fo.size] at h;omega
 | succ m ih=>
  intro F n h
  cases n with
  | zero=>exact ⟨λhf=>by rw [ai hf,nZ];exact Nat.zero_le _,λhf=>by rw [ai hf,vT];exact Nat.zero_le _⟩
  | succ n=>
   refine ⟨λhf=>?_,λhf=>?_⟩
   .obtain ⟨x,q,rfl,hx,hq,hl⟩:=Fit.split (fs:=E 3) (gs:=rep (E 3) n) hf
    obtain ⟨k,nm,mn,la,ln,lc,lk,na,nn,nc,nk,ka,kn,kc,kk,aa,an,ac,ak,rfl,-,-,h3,h4,h5,h6⟩:=ag hx;simp only [Fo.app,Fo.size] at h;have i1:=(ih kk kn (by omega)).1 h5;have i2:=(ih ak an (by omega)).2 h6;have i3:=(ih q n (by omega)).1 hq;simp only [Fo.app,Fo.wt];rw [yA];omega
   .obtain ⟨x,q,rfl,hx,hq,hl⟩:=Fit.split (fs:=E 2) (gs:=rep (E 2) n) hf
    obtain ⟨au,ca,cn,cc,ck,y,rfl,-,-,hy⟩:=aK hx;obtain ⟨k,nm,mn,la,ln,lc,lk,na,nn,nc,nk,ka,kn,kc,kk,aa,an,ac,ak,rfl,-,-,h3,h4,h5,h6⟩:=ag hy;simp only [Fo.app,Fo.size] at h;have i1:=(ih kk kn (by omega)).1 h5;have i2:=(ih ak an (by omega)).2 h6;have i3:=(ih q n (by omega)).2 hq;simp only [Fo.app,Fo.wt];rw [JN];omega
theorem Dx (gi:GI O A7 (SB A7 lo G wb) KK AA KR AR [] [] [] 0 tot) (LS PQ:List (Nat×Nat)) (cp:Nat) {x:Nat×Nat} (hx:Nu KK AA x):gT (ny LS PQ (bY O KK KR++dw O AA AR) (sj O KK AA KR AR) cp).sT x.1 x.2<=1048577∧x.1+x.2<=(bY O KK KR++dw O AA AR).length:=by
 rw [List.length_append,gi.qV,gi.EP];rcases hx with rfl | ⟨k,b,n,h1,rfl⟩ | ⟨k,b,n,h1,rfl⟩
 .exact ⟨Nat.zero_le _,by simp⟩
 .obtain ⟨r,hr⟩:=JP gi.lk h1
  refine ⟨by
   rw [gi.TQ LS PQ cp h1 hr];have h2:=(OX _ r n (Nat.le_refl _)).1 (gi.fk k _ r h1 hr).1;have h3:=gi.tw.k k _ r h1 hr;dsimp only at h3;omega,?_⟩
  have:=K.gL h1 (List.getElem?_eq_some_iff.1 h1).1
  dsimp only at this ⊢;omega
 .obtain ⟨r,hr⟩:=JP gi.la h1
  refine ⟨by
   rw [gi.TR LS PQ cp h1 hr];have h2:=(OX _ r n (Nat.le_refl _)).2 (gi.fa k _ r h1 hr).1;have h3:=gi.tw.a k _ r h1 hr;dsimp only at h3;omega,?_⟩
  have:=A.gL h1 (List.getElem?_eq_some_iff.1 h1).1
  dsimp only at this ⊢;omega
theorem su {W:World} {B n sz:Nat} {e:TypeId} {v:Value} {xs:List Value} (h:W.ownsRow B e sz v n xs) (hn:0 < n):∃b c,v=.slice (some ⟨b,0,none⟩) n c∧n<=c∧∀i u,xs[i]? =some u->W.cell? ⟨b,i,none⟩=some u:=by
 rcases h.2 with ⟨-,e2⟩ | ⟨b,cap,cur,rfl,-,-,hc,-⟩
 .omega
 .refine ⟨b,cap,rfl,hc,λi u hu=>?_⟩
  have:=h.cells (g:=b) rfl i u hu
  rwa [addr_add,Nat.zero_add] at this
theorem JQ:∀(LS:List (Nat×Nat)) (l:Nat) (x:Nat×Nat),LS[l]? =some x->(yj LS)[l * 2]? =some (.int .i64 (x.1:Int))∧(yj LS)[l * 2+1]? =some (.int .i64 (x.2:Int))
 | [],_,_,h=>by simp at h
 | y ::LS,0,x,h=>by
  have e:y=x:=by simpa using h
  subst e;exact ⟨rfl,rfl⟩
 | y ::LS,l+1,x,h=>by
  obtain ⟨g1,g2⟩:=JQ LS l x (by simpa using h);rw [show (l+1)* 2=l * 2+1+1 from by omega];exact ⟨by simpa [yj] using g1,by simpa [yj] using g2⟩
theorem NP.mg (np:NP O W w lo G M0 KK AA mk sk ma sa tk ta (bY O KK KR++dw O AA AR) (bY O KK KR++dw O AA AR).length LS lv nv PQ) (gi:GI O A7 (SB A7 lo G wb) KK AA KR AR [] [] [] 0 tot) (ht:tot<=4000000) (h1:1<=(bY O KK KR++dw O AA AR).length) (cp:Nat) (hwg:∀(k:Nat) (d:Nd),(bY O KK KR++dw O AA AR)[k]? =some d->∀V,Below w.heap.size w V->Calls Tryz.prog 50 #[.pointer (some ⟨cp,0,none⟩),.int .i64 (k:Int)] V λe V'=>e=.returned (.int .i64 ((IU d.x+(sj O KK AA KR AR).getD k 0:Nat):Int))∧Kept (λ_=>True) V V'):∃nb gy cn cm,MG (ny LS PQ (bY O KK KR++dw O AA AR) (sj O KK AA KR AR) cp) w G nb gy cn cm:=by
 obtain ⟨nb,cn,e1,n1,n2⟩:=su np.pn.ow h1;have hl0:=np.pn.l0;have hl1:0 < LS.length:=(List.getElem?_eq_some_iff.1 hl0).1;obtain ⟨gy,cm,e2,m1,m2⟩:=su np.pn.z.ln.ow hl1;have hpq:=np.pq;have hb:=gi.bound.1;have hll:=np.ll;have hls:∀l,l < LS.length->∃x,LS[l]? =some x∧Nu KK AA x:=λl hl=>⟨_,List.getElem?_eq_getElem hl,np.so _ (List.getElem_mem hl)⟩
 have hnd:∀k,k < (bY O KK KR++dw O AA AR).length->∃d p x y,(bY O KK KR++dw O AA AR)[k]? =some d∧PQ[k]? =some p∧LS[p.1]? =some x∧KX O KK (kA d.x) (kN d.x) x∧LS[p.2]? =some y∧AX O KK AA (aA d.x) (aN d.x) y:=λk hk=>by
  obtain ⟨d,hd⟩:∃d,(bY O KK KR++dw O AA AR)[k]? =some d:=⟨_,List.getElem?_eq_getElem hk⟩
  obtain ⟨p,hp⟩:∃p,PQ[k]? =some p:=⟨_,List.getElem?_eq_getElem (by omega)⟩
  obtain ⟨x,y,r⟩:=np.rel k d p hd hp;exact ⟨d,p,x,y,hd,hp,r⟩
 have hsL:∀l,l < LS.length->(ny LS PQ (bY O KK KR++dw O AA AR) (sj O KK AA KR AR) cp).sL l<=1048577:=λl hl=>by
  obtain ⟨x,hx,ho⟩:=hls l hl;rw [Dw hx];exact (Dx gi LS PQ cp ho).1
 refine ⟨nb,gy,cn,cm,⟨λl hl=>?_,λk hk=>?_,λk hk=>?_,λk hk=>?_,λl hl=>by have:=hsL l hl;omega,⟨?_,?_⟩⟩,⟨h1,hl1⟩,⟨n1,m1⟩,?_,?_,λk hk=>?_,λl hl=>?_,λp q hp hq=>⟨by have:=hsL p hp;omega,by have:=hsL q hq;omega⟩,λk hk=>?_⟩
 .obtain ⟨x,hx,ho⟩:=hls l hl
  have:=(Dx gi LS PQ cp ho).2
  simp only [ny,getD_some hx];exact this
 .obtain ⟨d,p,x,y,hd,hp,r1,r2,r3,r4⟩:=hnd k hk
  simp only [ny,getD_some hp];exact ⟨(List.getElem?_eq_some_iff.1 r1).1,(List.getElem?_eq_some_iff.1 r3).1⟩
 .obtain ⟨d,p,x,y,hd,hp,r1,r2,r3,r4⟩:=hnd k hk
  have hm:=List.mem_of_getElem? hd;have ep:(ny LS PQ (bY O KK KR++dw O AA AR) (sj O KK AA KR AR) cp).pl k=p.1:=by simp only [ny,getD_some hp]
  have eq:(ny LS PQ (bY O KK KR++dw O AA AR) (sj O KK AA KR AR) cp).ql k=p.2:=by simp only [ny,getD_some hp]
  rw [IV hd,OW hd,ep,eq,Dw r1,Dw r3,Si gi ht LS PQ cp hm r2,Sj gi ht LS PQ cp hm r4];obtain ⟨kd,nm,mn,la,ln,lc,lk,na,nn,nc,nk,ka,kn,kc,kk,aa,an,ac,ak,e,-⟩:=ag (gi.ok d hm).1.fit;rw [e,yA,nZ];simp only [kF,aF,IU];omega
 .obtain ⟨d,p,x,y,hd,-⟩:=hnd k hk
  rw [OW hd];obtain ⟨kd,nm,mn,la,ln,lc,lk,na,nn,nc,nk,ka,kn,kc,kk,aa,an,ac,ak,e,-⟩:=ag (gi.ok d (List.mem_of_getElem? hd)).1.fit;rw [e];simp only [IU];omega
 .show LS.length<=10000000
  omega
 .show (bY O KK KR++dw O AA AR).length<=10000000
  omega
 .have:=np.pn.c8
  rw [e1] at this;exact this
 .have:=np.pn.z.ln.c9
  rw [e2] at this;exact this
 .obtain ⟨d,p,x,y,hd,hp,-⟩:=hnd k hk
  have htk:(bY O KK KR++dw O AA AR).take (bY O KK KR++dw O AA AR).length=bY O KK KR++dw O AA AR:=List.take_length;rw [htk] at n2;obtain ⟨q1,q2⟩:=JB _ _ k d p hd hp;simp only [ny,getD_some hp];exact ⟨n2 _ _ q1,n2 _ _ q2⟩
 .obtain ⟨x,hx,-⟩:=hls l hl
  obtain ⟨q1,q2⟩:=JQ LS l x hx;simp only [ny,getD_some hx];exact ⟨m2 _ _ q1,m2 _ _ q2⟩
 .obtain ⟨d,p,x,y,hd,-⟩:=hnd k hk
  intro V bV;rw [OW hd];exact hwg k d hd V bV
end
theorem zz242 {P:Prop} (h:P:=by
 clear ha hx;go_wp2_with fail;go_ret;exact ⟨by simp;try omega,oN _ _ _⟩):P:=h
theorem oN (S:Nat->Prop) (A:World) (n:Nat):Kept S A (A.drewN n):=⟨rfl,rfl,rfl,Nat.le_refl _,λ_ _ _=>rfl⟩
theorem O9 {V:World} {cp G nb nt cn K0 K1 k b o nn nc ln lc ex:Nat} {na la tk:Option Addr} (e0:V.cell? ⟨cp,0,none⟩=some (.pointer (some ⟨G,0,none⟩))) (e8:V.cell? ⟨G,8,none⟩=some (.slice (some ⟨nb,0,none⟩) nt cn)) (hk:k < nt) (en:V.cell? ⟨nb,k * 3,none⟩=some (.pointer (some ⟨b,o,none⟩)))
  (e4:V.cell? ⟨b,o+4,none⟩=some (.slice na nn nc)) (e3:V.cell? ⟨b,o+3,none⟩=some (.slice la ln lc)) (e2:V.cell? ⟨G,2,none⟩=some (.slice tk K0 K1)) (hn:nn<=2000000) (hl:ln<=2000000) (hnt:nt<=10000000)
  (ha:K0<=k->∃(ta AC AD ab ao:Nat) (ca:Option Addr) (cc:Nat),V.cell? ⟨G,6,none⟩=some (.slice (some ⟨ta,0,none⟩) AC AD)∧k - K0 < AC∧AC<=AD∧V.cell? ⟨ta,k - K0,none⟩=some (.pointer (some ⟨ab,ao,none⟩))∧V.cell? ⟨ab,ao+1,none⟩=some (.slice ca ex cc)∧ex<=2000000) (hx:k < K0->ex=0):
  Calls Tryz.prog 50 #[.pointer (some ⟨cp,0,none⟩),.int .i64 (k:Int)] V λe V'=>e=.returned (.int .i64 ((1+nn+ln+ex:Nat):Int))∧Kept (λ_=>True) V V':=by
 have hki:(k:Int) < (nt:Int):=by omega
 go_enter Tryz.func50,Tryz.ntmps50
 go_upto_region 1 with fail
 go_quiet (fail)
 by_cases h:K0<=k
 .obtain ⟨ta,AC,AD,ab,ao,ca,cc,a1,a2,a3,a4,a5,a6⟩:=ha h
  obtain ⟨j,hj⟩:∃j,k - K0=j:=⟨_,rfl⟩
  rw [hj] at a2 a4;have hji:(k:Int) - (K0:Int)=(j:Int):=by omega
  have hjl:(j:Int) < (AC:Int):=by omega
  have hge:(K0:Int)<=(k:Int):=by omega
  exact zz242
 .have hge:¬(K0:Int)<=(k:Int):=by omega
  have e0:ex=0:=hx (by omega);subst e0;exact zz242
theorem NP.keep {O:Nat->Nat} {W w w1:World} {lo G M0:Nat} {KK AA:List (Nat×Nat)} {mk sk ma sa:Value} {tk ta:Nat} {ND:List Nd} {k:Nat} {LS:List (Nat×Nat)} {lv nv:Value} {PQ:List (Nat×Nat)} (h:NP O W w lo G M0 KK AA mk sk ma sa tk ta ND k LS lv nv PQ) (b:Below w.heap.size w w1):NP O W w1 lo G M0 KK AA mk sk ma sa tk ta ND k LS lv nv PQ:=
 ⟨h.pn.keep (Kept.of_below b (λ_ hb _=>hb)),h.le,h.pq,h.rel,h.so,h.ll,h.be.trans (b.mono h.be.size),h.hg⟩
theorem FO:∀(ds:List Nd) (ps:List (Nat×Nat)) (i:Nat) (d:Nd) (p:Nat×Nat),ds[i]? =some d->ps[i]? =some p->(xZ ds ps)[i * 3]? =some (kp d.pos)
 | [],_,_,_,_,h,_=>by simp at h
 | _ ::_,[],_,_,_,_,h=>by simp at h
 | e ::ds,q ::ps,0,d,p,h1,_=>by
  have e2:e=d:=by simpa using h1
  subst e2;rfl
 | e ::ds,q ::ps,i+1,d,p,h1,h2=>by
  have g:=FO ds ps i d p (by simpa using h1) (by simpa using h2);rw [show (i+1)* 3=i * 3+1+1+1 from by omega];simpa [xZ] using g
theorem Ce:∀(n:Nat) (F:Fo),Fit E F (rep (E 2) n)->∀j c,(tF F)[j]? =some c->c<=F.wt∧∃ca cc,F.vals[j * 9+1]? =some (.slice ca c cc)
 | 0,F,h=>by rw [ai h];intro j c hc;simp [tF] at hc
 | n+1,F,h=>by
  obtain ⟨x,q,rfl,hx,hq,hl⟩:=Fit.split (fs:=E 2) (gs:=rep (E 2) n) h;have g:=Ce n q hq;obtain ⟨au,ca,cn,cc,ck,y,rfl,-,hck,hy⟩:=aK hx;obtain ⟨k,nm,mn,la,ln,lc,lk,na,nn,nc,nk,ka,kn,kc,kk,aa,an,ac,ak,rfl,-⟩:=ag hy;simp only [Fo.app,tF];intro j c hc
  cases j with
  | zero=>
   simp only [List.getElem?_cons_zero,Option.some.injEq] at hc;subst hc;exact ⟨by simp only [Fo.wt];omega,ca,cc,rfl⟩
  | succ j=>
   obtain ⟨g1,iA,cc',g2⟩:=g j c (by simpa using hc);refine ⟨by simp only [Fo.wt];omega,iA,cc',?_⟩;rw [show (j+1)* 9+1=j * 9+1+1+1+1+1+1+1+1+1+1 from by omega];simpa [Fo.vals] using g2
section
variable {O:Nat->Nat} {W A7 w:World} {lo G wb M0:Nat} {KK AA:List (Nat×Nat)} {KR AR:List Fo} {mk sk ma sa:Value} {tk ta tot:Nat} {LS:List (Nat×Nat)} {lv nv:Value} {PQ:List (Nat×Nat)}
theorem NP.wg (np:NP O W w lo G M0 KK AA mk sk ma sa tk ta (bY O KK KR++dw O AA AR) (bY O KK KR++dw O AA AR).length LS lv nv PQ) (gi:GI O A7 (SB A7 lo G wb) KK AA KR AR [] [] [] 0 tot) (ht:tot<=4000000) (hk:Below W.heap.size W A7) (hlo:lo=W.heap.size+5) {cp:Nat} (e0:w.cell? ⟨cp,0,none⟩=some (.pointer (some ⟨G,0,none⟩))):
  ∀(k:Nat) (d:Nd),(bY O KK KR++dw O AA AR)[k]? =some d->∀V,Below w.heap.size w V->Calls Tryz.prog 50 #[.pointer (some ⟨cp,0,none⟩),.int .i64 (k:Int)] V λe V'=>e=.returned (.int .i64 ((IU d.x+(sj O KK AA KR AR).getD k 0:Nat):Int))∧Kept (λ_=>True) V V':=by
 intro k d hd V bV;have np:=np.keep bV;have e0:=(bV.cell (p:=⟨cp,0,none⟩) (block_lt_of_cell e0)).trans e0;have hkl:k < (bY O KK KR++dw O AA AR).length:=(List.getElem?_eq_some_iff.1 hd).1;have hm:=List.mem_of_getElem? hd;have hbd:=gi.bound.1;obtain ⟨nb,cn,x1,x2,x3⟩:=su np.pn.ow (by omega:0 < (bY O KK KR++dw O AA AR).length);rw [List.take_length] at x3;have c8:=np.pn.c8;rw [x1] at c8;obtain ⟨p,hp⟩:∃p,PQ[k]? =some p:=⟨_,List.getElem?_eq_getElem (by rw [np.pq];exact hkl)⟩
 have en:=x3 _ _ (FO _ _ k d p hd hp);obtain ⟨o1,-⟩:=gi.ok d hm;have hb:d.b < W.heap.size:=by have:=o1.at_.2.2.1;omega
 have hc:=o1.ae;have hw:=gi.tw.d d hm;obtain ⟨kd,nm,mn,la,ln,lc,lk,na,nn,nc,nk,ka,kn,kc,kk,aa,an,ac,ak,hx,-⟩:=ag o1.fit;have cV:∀j,V.cell? ⟨d.b,j,none⟩=A7.cell? ⟨d.b,j,none⟩:=λj=>(np.be.cell (p:=⟨d.b,j,none⟩) hb).trans (hk.cell (p:=⟨d.b,j,none⟩) hb).symm
 rw [hx] at hc hw ⊢;simp only [Fo.wt] at hw;rw [show IU _=1+nn+ln from rfl];refine O9 e0 c8 hkl en ((cV _).trans (hc 4 _ rfl)) ((cV _).trans (hc 3 _ rfl)) np.pn.z.c2 (by omega) (by omega) (by omega) (λhge=>?_) (λhlt=>JO (by rw [gi.qV];exact hlt));have hdA:(dw O AA AR)[k - K.off KK KK.length]? =some d:=by
  rw [List.getElem?_append_right (by rw [gi.qV];exact hge),gi.qV] at hd;exact hd
 obtain ⟨i,e,r,j,h1,h2,h3,h4,h5,h6⟩:=gi.fC hdA;have hfa:=(gi.fa i e r h1 h2).1;obtain ⟨c,hcx⟩:∃c,(tF r)[j]? =some c:=⟨_,List.getElem?_eq_getElem (by rw [(vU e.1 e.2 (O e.1) r hfa).1];exact h3)⟩
 have hpx:=gi.TP h1 h2 hcx;rw [show K.off KK KK.length+A.off AA i+j=k from by omega] at hpx;obtain ⟨g1,ca,cc,g2⟩:=Ce e.2 r hfa j c hcx;have Z8:=gi.tw.a i e r h1 h2;have hcl:=gi.tw.c i e r h1 h2 _ _ g2;have e2:d.b=e.1:=congrArg Prod.fst h6;have hal:k - K.off KK KK.length < A.off AA AA.length:=by
  have:=(List.getElem?_eq_some_iff.1 hdA).1
  rw [gi.EP] at this;exact this
 rw [hpx];refine ⟨ta,_,_,e.1,O e.1+j * 9,ca,cc,np.pn.z.c6,hal,Nat.le_refl _,?_,?_,by omega⟩
 .rcases np.pn.z.tA.full i e j h1 h3 with e1 | e1
  .cases e1
  .rw [<- h4] at e1
   exact e1
 .rw [<- e2,cV,e2]
  exact hcl
end
end Go.Proofs.YthfnobboalhihaaGreat
