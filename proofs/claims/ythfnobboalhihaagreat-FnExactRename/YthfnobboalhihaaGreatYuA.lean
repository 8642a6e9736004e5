import Derived.Test.YthfnobboalhihaaGreatYtA
set_option maxHeartbeats 4000000
set_option maxRecDepth 100000
namespace Go.Proofs.YthfnobboalhihaaGreat.A
open Go.RowKit Go.Joins
variable {O:Nat->Nat}
theorem uJ {lo G:Nat} {V:World} {M:Nat} {sv:Value} (h:GS O lo G V [] [] (.map (some M)) sv zf) (hc2:∃v,V.cell? ⟨G,6,none⟩=some v):
  Calls Tryz.prog 70 #[.pointer (some ⟨G,4,none⟩)] V λr V'=>(∃v,r=.returned v)∧wm O lo G V [] (.map (some M)) sv V':=by
 obtain ⟨a,cap,rfl⟩:=h.ng;have c1:V.cell? ⟨G,5,none⟩=some (.slice a 0 cap):=h.gs;have c0:=h.gm;have tf:=h.gf 6;have hlp:LP O lo G V [] (.map (some M)) (.slice a 0 cap) 0 V:=⟨by rw [lD];exact h,Kept.refl _ _⟩
 obtain ⟨c,hr,mO⟩:=SL.start (K:=[]) hlp h (by simp) hc2 0 rfl;obtain ⟨v2,c2⟩:=hc2;have hmk:(Instr.makeSlice 137 (.int .i64 0) (.int .i64 0)).run Tryz.prog V=.ok (.slice (some ⟨V.heap.size,0,none⟩) 0 0) (V.alloc (.cells (madeCells #[.pointer none] 0) 145)):=jG 0 (by omega) V;obtain ⟨w1,hw1⟩:∃w1,V.alloc (.cells (madeCells #[.pointer none] 0) 145)=w1:=⟨_,rfl⟩
 rw [hw1] at hmk hr mO;have k1:Kept (λ_=>True) V w1:=by rw [<- hw1];exact Kept.alloc _ _ _
 have ky:G < V.heap.size:=block_lt_of_cell c0;have t21:w1.cell? ⟨G,6,none⟩=some v2:=(k1.cell (p:=⟨G,6,none⟩) ky trivial).trans c2;have Ml:w1.frozen? ⟨G,6,none⟩=false:=(k1.frozen (p:=⟨G,6,none⟩) ky trivial).trans tf;have yP:w1.cell? ⟨G,4,none⟩=some (.map (some M)):=(k1.cell (p:=⟨G,4,none⟩) ky trivial).trans c0;obtain ⟨w2,hw2⟩:∃w2,w1.setCell ⟨G,6,none⟩ (.slice (some ⟨V.heap.size,0,none⟩) 0 0)=w2:=⟨_,rfl⟩
 rw [hw2] at hr mO;have Gy:w2.cell? ⟨G,4,none⟩=some (.map (some M)):=by
  exact zz190
 obtain ⟨w3,hw3⟩:∃w3,w2.alloc (.mapIter (some M) c #[] c)=w3:=⟨_,rfl⟩
 rw [hw3] at hr mO;have yQ:V.heap.size+1≠M:=by have:=h.map.2.2;omega
 have hnx:=mO.i.next (P:=Tryz.prog) yQ 0
 have hnx2:(Instr.next (.pointer (some ⟨V.heap.size+1,0,none⟩)) false 0).run Tryz.prog w3=.ok (.tuple #[.bool false]) w3:=by
  exact zz238
 have HE:=hide mO.fin;have HW2:=hide hw2;obtain ⟨I,hI⟩:∃I,V.heap.size+1=I:=⟨_,rfl⟩
 rw [hI] at hr hnx2;clear h hlp mO hnx k1 hw1 hw2 hw3 ky tf c2 yP yQ hI;go_enter Tryz.func70,Tryz.ntmps70;exact zz50
theorem uI {lo G:Nat} {V:World} {K:List (Nat×Nat)} {mv sv:Value} (h:GS O lo G V K K mv sv zf) (hn:(K.map Prod.fst).Nodup) (hl:K.length<=10000000) (hof:off K K.length<=10000000) (hc2:∃v,V.cell? ⟨G,6,none⟩=some v):
  Calls Tryz.prog 70 #[.pointer (some ⟨G,4,none⟩)] V λr V'=>(∃v,r=.returned v)∧wm O lo G V K mv sv V':=by
 exact zz84
end Go.Proofs.YthfnobboalhihaaGreat.A
