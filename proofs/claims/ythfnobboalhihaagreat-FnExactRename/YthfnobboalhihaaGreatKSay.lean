import Derived.Test.YthfnobboalhihaaGreatUt
import Derived.ProofKit
import Derived.OpenShut
import Derived.ShutString
import Derived.ChangeOld
import Derived.Deep.RegionHeld3
set_option maxRecDepth 100000
namespace Go.Proofs.YthfnobboalhihaaGreat
open Go.ChangeShapes Go.WideShapes Go.ChangeAt Go.RowKit Go.Joins
def Says (E:Nat->List bq) (W:World) (fs:List bq) (cs:List Value):Prop:=∃F:Fo,cs=F.vals∧Fit E F fs∧F.av W (λc=>c < W.heap.size)
theorem Says.cat {E:Nat->List bq} {W:World} {fs gs:List bq} {cs ds:List Value} (h:Says E W fs cs) (k:Says E W gs ds):Says E W (fs++gs) (cs++ds):=by
 obtain ⟨F,rfl,h1,h2⟩:=h;obtain ⟨G,rfl,k1,k2⟩:=k;exact ⟨F.app G,(Fo.bX F G).symm,h1.app k1,h2.app k2⟩
theorem Says.none {E:Nat->List bq} {W:World}:Says E W [] []:=⟨.nil,rfl,trivial,trivial⟩
theorem KG {E:Nat->List bq} {H:Type} {enc:TypeId×Value->H} {P:Program} {W:World} {m:Nat} {t:TypeId} {cs:List Value} {x:DataW H×List MemPlace} (ht:P.underlying t=some (.int .i64)) (h:DataW.trod enc P W 0 (λ_=>true) true m t cs=some x):Says E W [.i] cs:=by
 obtain ⟨k,e,-,hk⟩:=DataW.trod_int ht h;exact ⟨.v (.int .i64 k) .nil,e,⟨hk,trivial⟩,trivial⟩
theorem uC {E:Nat->List bq} {H:Type} {enc:TypeId×Value->H} {P:Program} {W:World} {m:Nat} {t:TypeId} {cs:List Value} {x:DataW H×List MemPlace} (ht:P.underlying t=some .string) (h:DataW.trod enc P W 0 (λ_=>true) true m t cs=some x):Says E W [.t] cs:=by
 obtain ⟨k,e,-,hk⟩:=DataW.trod_string ht h;exact ⟨.v (.string k) .nil,e,⟨hk,trivial⟩,trivial⟩
theorem Hw {E:Nat->List bq} {H:Type} {enc:TypeId×Value->H} {P:Program} {W:World} {m:Nat} {t:TypeId} {cs:List Value} {x:DataW H×List MemPlace} (ht:P.underlying t=some .bool) (h:DataW.trod enc P W 0 (λ_=>true) true m t cs=some x):Says E W [.b] cs:=by
 obtain ⟨k,e,-⟩:=DataW.trod_bool ht h;exact ⟨.v (.bool k) .nil,e,(show Fit E .nil [] from trivial),trivial⟩
theorem Hy {E:Nat->List bq} {H:Type} {enc:TypeId×Value->H} {P:Program} {W:World} {m:Nat} {t:TypeId} {cs:List Value} {x:DataW H×List MemPlace} (ht:P.underlying t=some (.int .u32)) (h:DataW.trod enc P W 0 (λ_=>true) true m t cs=some x):Says E W [.u] cs:=by
 obtain ⟨k,e,-,hk⟩:=DataW.trod_int ht h;exact ⟨.v (.int .u32 k) .nil,e,⟨hk,trivial⟩,trivial⟩
theorem bD.of_cells {W:World} {b o n:Nat} {cs:List Value} (h:W.cells? 0 ⟨b,o,none⟩ n=some cs):bD W cs b o:=λi v hv=>by
 obtain ⟨-,hl,hc⟩:=World.cells?_some h;have hi:i < n:=by rw [<- hl];exact (List.getElem?_eq_some_iff.1 hv).1
 have:=hc i hi
 rw [addr_add] at this;rw [this];exact hv
theorem Oe {E:Nat->List bq} {W:World} {fs:List bq} {b o len:Nat} (h:∀i,i < len->∃cs,W.cells? 0 ⟨b,o+i * fs.length,none⟩ fs.length=some cs∧Says E W fs cs):
  ∀j,j<=len->∃F:Fo,Fit E F (rep fs j)∧bD W F.vals b (o+(len - j)* fs.length)∧F.av W (λc=>c < W.heap.size):=by
 intro j
 induction j with
 | zero=>intro _;exact ⟨.nil,trivial,bD.nil _ _ _,trivial⟩
 | succ j ih=>
  intro hj;obtain ⟨F,hF,hC,hS⟩:=ih (by omega);obtain ⟨cs,hc,G,rfl,hG,hGs⟩:=h (len - (j+1)) (by omega);refine ⟨G.app F,hG.app hF,?_,hGs.app hS⟩;rw [Fo.bX];refine bD.join (bD.of_cells hc) ?_;rw [Fo.aB,hG.len];have e:len - j=len - (j+1)+1:=by omega
  rw [e,Nat.add_mul,Nat.one_mul,<- Nat.add_assoc] at hC;exact hC
theorem mf {E:Nat->List bq} {H:Type} {enc:TypeId×Value->H} {P:Program} {W:World} {m k:Nat} {t e:TypeId} {cs:List Value} {x:DataW H×List MemPlace} (ht:P.underlying t=some (.slice e)) (hc:P.cellsOf e=(E k).length) (hw:0 < (E k).length)
  (ih:∀m',m' < m->∀cs x,DataW.trod enc P W 0 (λ_=>true) true m' e cs=some x->Says E W (E k) cs) (h:DataW.trod enc P W 0 (λ_=>true) true m t cs=some x):Says E W [.s k] cs:=by
 rcases DataW.trod_slice ht h with ⟨e2,-⟩ | ⟨a,len,cap,elems,rest,n',hn',e2,-,-,hlc,hcm,hel,hE,-,-⟩
 .exact ⟨.s none 0 0 .nil .nil,e2,⟨trivial,trivial⟩,⟨⟨Nat.le_refl _,Nat.zero_le _,λhl=>by simp [Fo.len] at hl⟩,trivial⟩⟩
 .rw [hc] at hE
  obtain ⟨b,off,spot⟩:=a;rcases Nat.eq_zero_or_pos len with h0 | hp
  .subst h0
   exact ⟨.s (some ⟨b,off,spot⟩) 0 cap .nil .nil,e2,⟨trivial,trivial⟩,⟨⟨Nat.zero_le _,hcm,λhl=>by simp [Fo.len] at hl⟩,trivial⟩⟩
  .have Tt:∀i,i < len->∃cs,W.cells? 0 ((⟨b,off,spot⟩:Addr).add (i * (E k).length)) (E k).length=some cs∧Says E W (E k) cs:=by
    intro i hi;have h1:=hE i hi;have h2:∃y,elems[i]? =some y:=⟨elems[i],by simp [hel▸hi]⟩
    obtain ⟨y,hy⟩:=h2;rw [hy,Option.bind_eq_some_iff] at h1;obtain ⟨cs,hc,ht⟩:=h1;exact ⟨cs,hc,ih n' (by omega) cs y ht⟩
   have hspot:spot=none:=by
    obtain ⟨cs,hc,-⟩:=Tt 0 hp;obtain ⟨-,hl,hcc⟩:=World.cells?_some hc;have h1:=hcc 0 hw;have h2:∃u,cs[0]? =some u:=⟨cs[0],by simp [hl▸hw]⟩
    obtain ⟨u,hu⟩:=h2;rw [hu] at h1;simpa [Addr.add] using World.cell?_spot h1
   subst hspot;have Tu:∀i,i < len->∃cs,W.cells? 0 ⟨b,off+i * (E k).length,none⟩ (E k).length=some cs∧Says E W (E k) cs:=λi hi=>by
    have:=Tt i hi
    rwa [addr_add] at this
   obtain ⟨F,hF,hC,hS⟩:=Oe Tu len (Nat.le_refl _);refine ⟨.s (some ⟨b,off,none⟩) len cap F .nil,e2,⟨hF,trivial⟩,⟨⟨hlc,hcm,λ_=>⟨b,off,rfl,?_,by simpa using hC,hS⟩⟩,trivial⟩⟩;obtain ⟨cs,hc,-⟩:=Tu 0 hp;exact World.cells?_block hc hw
theorem Tryz.own:ownKnob Tryz.prog.godebug=none:=by kernel_rfl
theorem Tryz.laidOut:laidOutB Tryz.prog=true:=by kernel_rfl
theorem Tryz.QH:Tryz.prog.cellsOf 2=1:=by kernel_rfl
theorem Tryz.QI:Tryz.prog.cellsOf 4=1:=by kernel_rfl
theorem Tryz.yu:Tryz.prog.cellsOf 9=1:=by kernel_rfl
theorem Tryz.M9:Tryz.prog.cellsOf 22=1:=by kernel_rfl
theorem Tryz.cells24:Tryz.prog.cellsOf 24=2:=by kernel_rfl
theorem Tryz.Ep:Tryz.prog.cellsOf 25=1:=by kernel_rfl
theorem Tryz.Na:Tryz.prog.cellsOf 26=1:=by kernel_rfl
theorem Tryz.Nb:Tryz.prog.cellsOf 27=1:=by kernel_rfl
theorem Tryz.ze:Tryz.prog.cellsOf 29=7:=by kernel_rfl
theorem Tryz.Er:Tryz.prog.cellsOf 66=9:=by kernel_rfl
theorem Tryz.KF:Tryz.prog.cellsOf 111=1:=by kernel_rfl
theorem Nc {H:Type} {enc:TypeId×Value->H} {W:World}:∀(m:Nat),(∀cs x,DataW.trod enc Tryz.prog W 0 (λ_=>true) true m 24 cs=some x->Says E W [.b,.s 0] cs)∧(∀cs x,DataW.trod enc Tryz.prog W 0 (λ_=>true) true m 66 cs=some x->Says E W (E 2) cs)∧(∀cs x,DataW.trod enc Tryz.prog W 0 (λ_=>true) true m 29 cs=some x->Says E W (E 3) cs)∧(∀cs x,DataW.trod enc Tryz.prog W 0 (λ_=>true) true m 111 cs=some x->Says E W (E 0) cs)∧(∀cs x,DataW.trod enc Tryz.prog W 0 (λ_=>true) true m 9 cs=some x->Says E W (E 1) cs):=by
 intro m
 induction m using Nat.strongRecOn with
 | ind m ih=>
 refine ⟨?_,?_,?_,?_,?_⟩
 .intro cs x h
  obtain ⟨xs,n,rfl,-,hl,hlen,hf⟩:=DataW.trod_struct Tryz.underlying24 h;rw [Tryz.cells24] at hl
  match cs,hl with
  | [c0,c1],_=>
   have f0:DataW.trod enc Tryz.prog W 0 (λ_=>true) true n 4 [c0]=xs[0]? :=by
    have:=hf 0 _ rfl
    simpa [Tryz.QI] using this
   have f1:DataW.trod enc Tryz.prog W 0 (λ_=>true) true n 22 [c1]=xs[1]? :=by
    have:=hf 1 _ rfl
    simpa [Tryz.M9] using this
   match xs,hlen with
   | [y0,y1],_=>
    simp only [List.getElem?_cons_zero,List.getElem?_cons_succ] at f0 f1;exact Says.cat (Hw Tryz.underlying4 f0) (Says.cat (mf (E:=E) (k:=0) Tryz.underlying22 Tryz.KF (by decide) (λm2 hm2=>(ih m2 (by omega)).2.2.2.1) f1) (Says.none))
 .intro cs x h
  obtain ⟨xs,n,rfl,-,hl,hlen,hf⟩:=DataW.trod_struct Tryz.underlying66 h;rw [Tryz.Er] at hl
  match cs,hl with
  | [c0,c1,c2,c3,c4,c5,c6,c7,c8],_=>
   have f0:DataW.trod enc Tryz.prog W 0 (λ_=>true) true n 9 [c0]=xs[0]? :=by
    have:=hf 0 _ rfl
    simpa [Tryz.yu] using this
   have f1:DataW.trod enc Tryz.prog W 0 (λ_=>true) true n 25 [c1]=xs[1]? :=by
    have:=hf 1 _ rfl
    simpa [Tryz.Ep] using this
   have f2:DataW.trod enc Tryz.prog W 0 (λ_=>true) true n 29 [c2,c3,c4,c5,c6,c7,c8]=xs[2]? :=by
    have:=hf 2 _ rfl
    simpa [Tryz.ze] using this
   match xs,hlen with
   | [y0,y1,y2],_=>
    simp only [List.getElem?_cons_zero,List.getElem?_cons_succ] at f0 f1 f2;exact Says.cat (uC Tryz.underlying9 f0) (Says.cat (mf (E:=E) (k:=1) Tryz.underlying25 Tryz.yu (by decide) (λm2 hm2=>(ih m2 (by omega)).2.2.2.2) f1) (Says.cat ((ih n (by omega)).2.2.1 _ _ f2) (Says.none)))
 .intro cs x h
  obtain ⟨xs,n,rfl,-,hl,hlen,hf⟩:=DataW.trod_struct Tryz.underlying29 h;rw [Tryz.ze] at hl
  match cs,hl with
  | [c0,c1,c2,c3,c4,c5,c6],_=>
   have f0:DataW.trod enc Tryz.prog W 0 (λ_=>true) true n 2 [c0]=xs[0]? :=by
    have:=hf 0 _ rfl
    simpa [Tryz.QH] using this
   have f1:DataW.trod enc Tryz.prog W 0 (λ_=>true) true n 9 [c1]=xs[1]? :=by
    have:=hf 1 _ rfl
    simpa [Tryz.yu] using this
   have f2:DataW.trod enc Tryz.prog W 0 (λ_=>true) true n 24 [c2,c3]=xs[2]? :=by
    have:=hf 2 _ rfl
    simpa [Tryz.cells24] using this
   have f3:DataW.trod enc Tryz.prog W 0 (λ_=>true) true n 25 [c4]=xs[3]? :=by
    have:=hf 3 _ rfl
    simpa [Tryz.Ep] using this
   have f4:DataW.trod enc Tryz.prog W 0 (λ_=>true) true n 26 [c5]=xs[4]? :=by
    have:=hf 4 _ rfl
    simpa [Tryz.Na] using this
   have f5:DataW.trod enc Tryz.prog W 0 (λ_=>true) true n 27 [c6]=xs[5]? :=by
    have:=hf 5 _ rfl
    simpa [Tryz.Nb] using this
   match xs,hlen with
   | [y0,y1,y2,y3,y4,y5],_=>
    simp only [List.getElem?_cons_zero,List.getElem?_cons_succ] at f0 f1 f2 f3 f4 f5;exact Says.cat (KG Tryz.underlying2 f0) (Says.cat (uC Tryz.underlying9 f1) (Says.cat ((ih n (by omega)).1 _ _ f2) (Says.cat (mf (E:=E) (k:=1) Tryz.underlying25 Tryz.yu (by decide) (λm2 hm2=>(ih m2 (by omega)).2.2.2.2) f3) (Says.cat (mf (E:=E) (k:=3) Tryz.underlying26 Tryz.ze (by decide) (λm2 hm2=>(ih m2 (by omega)).2.2.1) f4) (Says.cat (mf (E:=E) (k:=2) Tryz.underlying27 Tryz.Er (by decide) (λm2 hm2=>(ih m2 (by omega)).2.1) f5) (Says.none))))))
 .intro cs x h
  exact Hy Tryz.underlying111 h
 .intro cs x h
  exact uC Tryz.underlying9 h
theorem Ha {H:Type} {enc:TypeId×Value->H} {W:World} {r:Reach} {base:Nat} {v:Value} {d:DataW H} {p:List MemPlace} (hv:Value.okWide Tryz.prog W r base 29 v) (h:DataW.Trod enc Tryz.prog W 0 (λ_=>true) true 29 v d p):
  ∃F:Fo,v=.agg F.vals.toArray∧Fit E F (E 3)∧F.av W (λc=>c < W.heap.size):=by
 obtain ⟨cs,rfl,hsz⟩:=okWide_struct Tryz.underlying29 hv;obtain ⟨fuel,hf⟩:=h;obtain ⟨F,e,h1,h2⟩:=(Nc fuel).2.2.1 _ _ hf;refine ⟨F,?_,h1,h2⟩;simp only [Value.cells] at e;congr 1;apply Array.ext';exact e
end Go.Proofs.YthfnobboalhihaaGreat
