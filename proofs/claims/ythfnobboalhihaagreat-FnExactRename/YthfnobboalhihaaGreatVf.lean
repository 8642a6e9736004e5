import Derived.Test.YthfnobboalhihaaGreatVb
import Derived.Test.YthfnobboalhihaaGreatProg
import Derived.Shelf.Bits.Mul64
import Derived.Laws.CopyOwn
set_option maxHeartbeats 1000000
set_option maxRecDepth 100000
namespace Go.Proofs
open Go.Shelf
def Tryz.DI:Go.Shelf.Ren:=⟨fun | 264=>127 | n=>n,fun | 53=>217 | 46=>192 | n=>n,fun | n=>n⟩
theorem Tryz.Pn:Go.Proofs.Lays.n264 Tryz.prog Tryz.DI:={
 mixed:=by kernel_rfl
 f264:=Tryz.func127.trans (congrArg some (by kernel_rfl))
 t46:=Tryz.underlying192
 a46:=Tryz.isAgg192
 z46:=Tryz.sizeOf192
 v46:=Tryz.zeroValue192
 t53:=Tryz.underlying217
 a53:=Tryz.isAgg217
 z53:=Tryz.sizeOf217
 v53:=Tryz.zeroValue217}
open Go.RowKit Go.Lib in
theorem Tryz.bits_Mul64 (x y:Nat) (hx:x < 18446744073709551616) (hy:y < 18446744073709551616) (w:World):
  Calls Tryz.prog 127 #[.int .u64 x,.int .u64 y] w λe w'=>e=.returned (.tuple #[.int .u64 ((x * y / 18446744073709551616:Nat):Int),.int .u64 ((x * y % 18446744073709551616:Nat):Int)])∧w'=w:=Any.bits_Mul64 Tryz.Pn x y hx hy w
def Tryz.DJ:Go.Shelf.Ren:=⟨fun | 212=>107 | 263=>126 | 264=>127 | n=>n,fun | 46=>192 | 51=>111 | 146=>215 | 53=>217 | 148=>218 | n=>n,fun | n=>n⟩
theorem Tryz.Po:Go.Proofs.Lays.n212 Tryz.prog Tryz.DJ:={
 mixed:=by kernel_rfl
 f212:=Tryz.func107.trans (congrArg some (by kernel_rfl))
 f263:=Tryz.func126.trans (congrArg some (by kernel_rfl))
 f264:=Tryz.func127.trans (congrArg some (by kernel_rfl))
 t46:=Tryz.underlying192
 a46:=Tryz.isAgg192
 z46:=Tryz.sizeOf192
 v46:=Tryz.zeroValue192
 t51:=Tryz.underlying111
 a51:=Tryz.isAgg111
 z51:=Tryz.sizeOf111
 v51:=Tryz.zeroValue111
 t53:=Tryz.underlying217
 a53:=Tryz.isAgg217
 z53:=Tryz.sizeOf217
 v53:=Tryz.zeroValue217
 t146:=Tryz.underlying215
 a146:=Tryz.isAgg215
 z146:=Tryz.sizeOf215
 v146:=Tryz.zeroValue215
 t148:=Tryz.underlying218
 a148:=Tryz.isAgg218
 z148:=Tryz.sizeOf218
 v148:=Tryz.zeroValue218}
open Go.RowKit Go.Lib in
theorem Tryz.bits_Mul (x y:Nat) (hx:x < 18446744073709551616) (hy:y < 18446744073709551616) (w:World):
  Calls Tryz.prog 107 #[.int .u64 x,.int .u64 y] w λe w'=>e=.returned (.tuple #[.int .u64 ((x * y / 18446744073709551616:Nat):Int),.int .u64 ((x * y % 18446744073709551616:Nat):Int)])∧w'=w:=Any.bits_Mul Tryz.Po x y hx hy w
end Go.Proofs
namespace Go.Proofs.YthfnobboalhihaaGreat
open Go.RowKit Go.Joins
theorem Tryz.info2:(Tryz.prog.info? 2).map (λi=>(i.zero,i.size,i.bytes))=some (some (.int .i64 0),1,8):=by kernel_rfl
theorem Tryz.OB:(Tryz.prog.info? 2).map (·.size)=some 1:=by kernel_rfl
def RR (w:World) (g n k:Nat):Prop:=∃cur:List Value,w.heap[g]? =some (.cells cur.toArray 2 (0,0))∧cur.length=n∧∀i,i < k->cur[i]? =some (.int .i64 (-1))
theorem xL {cur:List Value} {k c:Nat} {v:Value} (hl:k+c<=cur.length) (h:∀i,i < k->cur[i]? =some v):∀i,i < k+c->(splice cur k (List.replicate c v))[i]? =some v:=λi hi=>by
 unfold splice
 by_cases h1:i < k
 .rw [List.getElem?_append_left (by rw [List.length_take];omega),List.getElem?_take,if_pos h1]
  exact h i h1
 .rw [List.getElem?_append_right (by rw [List.length_take];omega),List.length_take,Nat.min_eq_left (by omega),List.getElem?_append_left (by rw [List.length_replicate];omega),List.getElem?_replicate,if_pos (by omega)]
theorem II (n:Nat) (hn:n<=10000000) (w:World):Calls Tryz.prog 107 #[.int .u64 1,.int .u64 n] w λe w'=>e=.returned (.tuple #[.int .u64 0,.int .u64 n])∧w'=w:=by
 have h:=Tryz.bits_Mul 1 n (by omega) (by omega) w;have e1:1 * n / 18446744073709551616=0:=by omega
 have e2:1 * n % 18446744073709551616=n:=by omega
 rw [e1,e2] at h;exact h
theorem Ca (n xb:Nat) (h1:1<=n) (hn:n<=10000000) (W:World) (hx:W.cell? ⟨xb,0,none⟩=some (.int .i64 (-1))):
  Calls Tryz.prog 72 #[.slice (some ⟨xb,0,none⟩) 1 1,.int .i64 n] W λe W'=>∃g,e=.returned (.slice (some ⟨g,0,none⟩) n n)∧W.heap.size<=g∧RR W' g n n∧Below W.heap.size W W':=by
 have hmk:=run_make_row' (P:=Tryz.prog) 94 2 (.int .i64 0) 8 Tryz.underlying94 Tryz.info2 rfl .i64 .i64 n (by omega) (by omega) W;have ZM:=hide (II n hn W);obtain ⟨V1,hV1⟩:∃V1,W.alloc (.cells (madeCells #[Value.int .i64 0] n) 2)=V1:=⟨_,rfl⟩
 rw [hV1] at hmk;have HR1:Hid (RR V1 W.heap.size n 0):=⟨(madeCells #[Value.int .i64 0] n).toList,by rw [<- hV1];simpa using bH W (.cells (madeCells #[Value.int .i64 0] n) 2),by rw [Array.length_toList];exact size_madeCells _ _,λi hi=>by omega⟩
 have HB1:Hid (Below W.heap.size W V1):=by unfold Hid;rw [<- hV1];exact below_alloc1 _ _
 have EY:Hid (V1.cell? ⟨xb,0,none⟩=some (.int .i64 (-1))):=(HB1.out.cell (block_lt_of_cell hx)).trans hx;have hwu:IntKind.u64.wrap (n:Int)=(n:Int):=by rw [IntKind.wrap_u64];omega
 have hwi:IntKind.i64.wrap (n:Int)=(n:Int):=by rw [IntKind.wrap_i64];omega
 clear hV1;go_enter Tryz.func72,Tryz.ntmps72;go_wp2_with fail;refine ZM.out.mono ?_;rintro e w ⟨rfl,rfl⟩
 go_upto_region 7 with fail
 obtain ⟨cur,hg1,hl1,-⟩:=HR1.out;have gz:=hide hg1;have fE:=hide hl1;clear hg1 hl1 HR1 hmk ZM hx;have HZ:Hid (w.heap.size<=w.heap.size):=Nat.le_refl _;have JK:Hid (∀j v,[Value.int .i64 (-1)][j]? =some v->V1.cell? ((⟨xb,0,none⟩:Addr).add j)=some v):=λj v hv=>by
  cases j with
  | zero=>
   have e:v=.int .i64 (-1):=by simpa using hv.symm
   rw [e];simpa [Addr.add] using EY.out
  | succ j=>simp at hv
 have pg:Hid (∀w2:World,Hid (w2.heap[w.heap.size]? =some (.cells (splice cur 0 [.int .i64 (-1)]).toArray 2 (0,0)))->RR w2 w.heap.size n 1):=λw2 h=>⟨_,h.out,by rw [length_splice _ _ _ (by rw [fE.out];simpa using h1)];exact fE.out,λi hi=>xL (k:=0) (c:=1) (by rw [fE.out];omega) (λi hi=>by omega) i (by omega)⟩
 have dZ:Hid ([Value.int .i64 (-1)].length=Nat.min 1 n):=by
  have e:Nat.min 1 n=min 1 n:=rfl;unfold Hid;rw [e];show 1=_;omega
 have Kv:Hid (0+[Value.int .i64 (-1)].length<=cur.length):=by unfold Hid;rw [fE.out];exact h1
 have Fe:Hid (∀v∈[Value.int .i64 (-1)],v.oneCell'=true):=λv hv=>by simp at hv;rw [hv];rfl
 go_wp2_with (refine wpList_copy_splice rfl _ _ 94 94 rfl 2 Tryz.underlying94 Tryz.OB _ _ n n 1 1 rfl rfl w.heap.size 0 cur 2 gz.out [.int .i64 (-1)] dZ.out (λ_=>⟨rfl,⟨xb,0,none⟩,rfl,JK.out⟩) Kv.out Fe.out w.heap.size w HB1.out HZ.out ?_;intro w2 hG2 hB2;have HR2:=hide (pg.out w2 hG2);have HB2:=hide hB2;clear hG2 hB2);clear JK pg gz fE EY HB1 dZ Kv Fe
 go_loopw [8] (λs8 wr=>∃k:Nat,s8=.int .i64 (k:Int)∧1<=k∧k<=n∧RR wr w.heap.size n k∧Below w.heap.size w wr) (λs8 wr=>n - (intOf s8).toNat)
 case atStart=>exact ⟨1,rfl,Nat.le_refl _,h1,HR2.out,HB2.out⟩
 case round=>
  clear HR2 HB2;obtain ⟨k,rfl,hk1,hkn,hR,hB⟩:=hrel;have HR:=hide hR;have HB:=hide hB;clear hR hB
  by_cases hlt:(k:Int) < (n:Int)
  .obtain ⟨c,hc⟩:∃c,Nat.min k (n - k)=c:=⟨_,rfl⟩
   have hc1:1<=c∧k+c<=n:=by
    have e:Nat.min k (n - k)=min k (n - k):=rfl;rw [e] at hc;omega
   obtain ⟨cur,hg,hl,hv⟩:=HR.out;have HG:=hide hg;have HL:=hide hl;have HV:=hide hv;have HC:=hide hc;clear hg hl hv hc;have HN:Hid ((List.replicate c (Value.int .i64 (-1))).length=Nat.min k (n - k)):=by unfold Hid;rw [List.length_replicate];exact HC.out.symm
   have JK:Hid (∀j v,(List.replicate c (Value.int .i64 (-1)))[j]? =some v->wr.drew.cell? ((⟨w.heap.size,0,none⟩:Addr).add j)=some v):=λj v hv=>by
    rw [List.getElem?_replicate] at hv
    split at hv
    .cases hv
     refine World.news_of_block (w:=wr.drew) (t:=2) (fr:=(0,0)) HG.out j _ ?_;simpa using HV.out j (by have h3:=HC.out;have e:Nat.min k (n - k)=min k (n - k):=rfl;rw [e] at h3;omega)
    .cases hv
   have TG:Hid (k+(List.replicate c (Value.int .i64 (-1))).length<=cur.length):=by unfold Hid;rw [List.length_replicate,HL.out];exact hc1.2
   have ZN:Hid (∀v∈List.replicate c (Value.int .i64 (-1)),v.oneCell'=true):=λv hv=>by rw [(List.mem_replicate.1 hv).2];rfl
   have pg:Hid (∀w2:World,Hid (w2.heap[w.heap.size]? =some (.cells (splice cur k (List.replicate c (.int .i64 (-1)))).toArray 2 (0,0)))->RR w2 w.heap.size n (k+c)):=λw2 h=>⟨_,h.out,by rw [length_splice _ _ _ TG.out];exact HL.out,xL (by rw [HL.out];exact hc1.2) HV.out⟩
   have HBD:Hid (Below w.heap.size w wr.drew):=HB.out.drew;have hwk:IntKind.i64.wrap (k:Int)=(k:Int):=by rw [IntKind.wrap_i64];omega
   have hne:¬n=k:=by omega
   obtain ⟨d,hd⟩:∃d,n - k=d:=⟨_,rfl⟩
   have vK:=HN.out;rw [hd] at vK;replace HN:Hid ((List.replicate c (Value.int .i64 (-1))).length=Nat.min k d):=vK;clear vK
   go_upto_region 9 with fail
   go_region_law (refine step_copy_splice rfl _ _ 94 94 rfl 2 Tryz.underlying94 Tryz.OB (some ⟨w.heap.size,k,none⟩) (some ⟨w.heap.size,0,none⟩) d d k n (by kernel_rfl) (by kernel_rfl) w.heap.size k cur 2 HG.out (List.replicate c (.int .i64 (-1))) HN.out (λ_=>⟨rfl,⟨w.heap.size,0,none⟩,rfl,JK.out⟩) TG.out ZN.out w.heap.size w HBD.out HZ.out ?_;intro w2 hG2 hB2;have HR2:=hide (pg.out w2 hG2);have HB2:=hide hB2;clear hG2 hB2)
   all_goals
    go_wp2_with fail;have ZO:IntKind.i64.wrap ((k:Int)+(c:Int))=((k+c:Nat):Int):=by rw [IntKind.wrap_i64];omega
    go_simp;go_roundw
    case rel=>exact ⟨k+c,by first | rfl | rw [ZO] | simp,by omega,by omega,HR2.out,HB2.out⟩
    case measure=>
     simp only [intOf];omega
  .have hkn':k=n:=by omega
   subst hkn';go_wp2_with fail;go_ret;exact ⟨_,rfl,Nat.le_refl _,HR.out,HB.out⟩
end Go.Proofs.YthfnobboalhihaaGreat
