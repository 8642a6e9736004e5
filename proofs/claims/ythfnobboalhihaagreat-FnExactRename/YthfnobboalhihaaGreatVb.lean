import Derived.Test.YthfnobboalhihaaGreatUw
import Derived.Laws.StructEq
import Derived.Laws.Small
import Derived.Maps.OwnSet
namespace Go.Proofs.YthfnobboalhihaaGreat
open Go.RowKit Go.Joins
theorem zz38 {P:Prop} (h:P:=by
 by_cases hp:p.1=x
 .have hd:decide (x=p.1)=true:=by simp [hp]
  rw [hd] at hc;refine .inr ⟨0,p.2,by simp [fK,hp],?_⟩;unfold Instr.findAsking;simp [Op.equal,Op.maxDepth,h1,hc,h2]
 .have hd:decide (x=p.1)=false:=by simp;exact λe=>hp e.symm
  rw [hd] at hc;rcases ih with ⟨g1,g2⟩ | ⟨j,v,g1,g2⟩
  .refine .inl ⟨by simp [fK,hp,g1],?_⟩
   unfold Instr.findAsking;simp [Op.equal,Op.maxDepth,h1,hc,g2]
  .refine .inr ⟨j+1,v,by simp [fK,hp,g1],?_⟩
   unfold Instr.findAsking;have ej:i+1+j=i+(j+1):=by omega
   rw [ej] at g2;simp [Op.equal,Op.maxDepth,h1,hc,g2]):P:=h
theorem zz93 {P:Prop} (h:P:=by
 unfold Instr.findKey
 cases es with
 | nil=>simp [go_sem,Instr.findNow,Instr.findAsking]
 | cons e es=>
  cases kv with
  | nil=>simp at h
  | cons p kv=>
   simp only [List.map_cons,List.cons.injEq,Prod.mk.injEq] at h;simp [go_sem,Instr.findNow,h.1.1,Ci]):P:=h
theorem zz142 {P:Prop} (h:P:=by
 refine List.nodup_append.2 ⟨h3,by simp,λa ha b hb=>?_⟩;obtain ⟨z,hz,rfl⟩:=List.mem_map.1 ha;have hb':b=c:=by simpa using hb
 have:=h4 z hz
 omega):P:=h
theorem zz144 {P:Prop} (h:P:=by
 rcases List.mem_append.1 hy with hy | hy
 .have:=h4 y hy
  omega
 .have e:y={key:=kp x,val:=vp v,born:=c}:=by simpa using hy
  rw [e];show c < c+1;omega):P:=h
theorem zz179 {P:Prop} (h:P:=by
 have e:kv=[]:=by
  cases kv with
  | nil=>rfl
  | cons _ _=>simp at h
 subst e;exact .inl ⟨rfl,by simp [Instr.findAsking]⟩):P:=h
theorem zz221 {P:Prop} (h:P:=by
 have hl:=h.lt;obtain ⟨es,c,h1,h2⟩:=h;exact ⟨es,c,(k.block M hl hS).trans h1,h2⟩):P:=h
open Go.RowKit Go.Joins Go.MapKept Go.ChangeMaps
structure aO (w:World) (c:Nat):Prop where
 fr:∀j,w.frozen? ⟨c,j,none⟩=false
 sh:∃t n,w.shape? c=some (t,n)
theorem aO.at {w:World} {a:Addr} (h:aO w a.block):w.frozen? a=false:=by
 have:=h.fr a.off
 simpa [World.frozen?] using this
theorem aO.kept {A B:World} {S:Nat->Prop} {c:Nat} (h:aO A c) (k:Kept S A B) (hc:c < A.heap.size) (hs:S c):aO B c:=by
 have e:=k.block c hc hs;refine ⟨λj=>?_,?_⟩
 .rw [k.frozen (p:=⟨c,j,none⟩) hc hs]
  exact h.fr j
 .obtain ⟨t,n,hx⟩:=h.sh
  refine ⟨t,n,?_⟩;unfold World.shape? at hx ⊢;rw [e];exact hx
theorem aO.of {W:World} {b o:Nat} {v:Value} (hf:∀j,W.frozen? ⟨b,j,none⟩=false) (hc:W.cell? ⟨b,o,none⟩=some v):aO W b:=by
 refine ⟨hf,?_⟩;unfold World.cell? at hc;unfold World.shape?
 cases h:W.heap[b]? with
 | none=>simp [h] at hc
 | some ob=>
  cases ob <;> simp_all
theorem aO.lt {A:World} {b:Nat} (h:aO A b):b < A.heap.size:=by
 obtain ⟨t,n,e⟩:=h.sh;unfold World.shape? at e
 cases h2:A.heap[b]? with
 | none=>simp [h2] at e
 | some o=>exact (Array.getElem?_eq_some_iff.1 h2).1
theorem aO.all {A B:World} {c:Nat} (h:aO A c) (k:Kept (λ_=>True) A B):aO B c:=h.kept k h.lt trivial
theorem DV {P:Program} {w:World} {a b:Addr} (hne:a.block≠b.block) (ha:aO w a.block) (hb:aO w b.block):(sameAddr a b).run P w=.ok false w:=by
 obtain ⟨t,n,hs⟩:=ha.sh;obtain ⟨t',n',hs'⟩:=hb.sh;have h1:=ha.at
 have h2:=hb.at
 have h3:=ha.fr n;have h4:=hb.fr n';simp [sameAddr,hne,h1,h2,h3,h4,noView,viewAt,mayBeOne,stringish,hs,hs']
theorem DW {P:Program} {w:World} (b o o':Nat):(sameAddr ⟨b,o,none⟩ ⟨b,o',none⟩).run P w=.ok (decide (o=o')) w:=by
 by_cases e:o=o'
 .subst e
  simp [sameAddr]
 .have:((⟨b,o,none⟩:Addr)==⟨b,o',none⟩)=false:=by
   apply beq_eq_false_iff_ne.2;intro h
   cases h
   exact e rfl
  simp [sameAddr,this,e]
def kp (x:Nat×Nat):Value:=.pointer (some ⟨x.1,x.2,none⟩)
def vp (v:Nat×Nat):Value:=.agg #[.int .i64 v.1,.int .i64 v.2]
theorem Ch {P:Program} {w:World} (x y:Nat×Nat) (hx:aO w x.1) (hy:aO w y.1):(sameAddr ⟨x.1,x.2,none⟩ ⟨y.1,y.2,none⟩).run P w=.ok (decide (x=y)) w:=by
 obtain ⟨b,o⟩:=x;obtain ⟨b',o'⟩:=y
 by_cases e:b=b'
 .subst e
  rw [DW]
  simp
 .rw [DV (by exact e) hx hy]
  simp [e]
def fK (x:Nat×Nat):List ((Nat×Nat)×(Nat×Nat))->Option (Nat×Nat)
 | []=>none
 | p ::r=>if p.1=x then some p.2 else fK x r
def MP (w:World) (M:Nat) (kv:List ((Nat×Nat)×(Nat×Nat))):Prop:=
 ∃es clock,w.heap[M]? =some (.map es clock)∧es.toList.map (λe=>(e.key,e.val))=kv.map (λp=>(kp p.1,vp p.2))∧(es.toList.map (·.born)).Nodup∧∀x∈es.toList,x.born < clock
theorem MP.lt {w:World} {M:Nat} {kv:List ((Nat×Nat)×(Nat×Nat))} (h:MP w M kv):M < w.heap.size:=by
 obtain ⟨es,c,h1,-⟩:=h;exact (Array.getElem?_eq_some_iff.1 h1).1
theorem MP.kept {w w':World} {M:Nat} {kv:List ((Nat×Nat)×(Nat×Nat))} {S:Nat->Prop} (h:MP w M kv) (k:Kept S w w') (hS:S M):MP w' M kv:=by
 exact zz221
theorem MP.start (w:World):MP (w.alloc (.map #[] 0)) w.heap.size []:=⟨#[],0,(MapKept.heap_alloc w _).1,rfl,by simp,by simp⟩
theorem Ci (x y:Nat×Nat) (d:TypeDesc):Instr.sameNow d (kp x) (kp y)=none:=by
 cases d <;> rfl
theorem LW {w:World} (x y:Nat×Nat) (hx:aO w x.1) (hy:aO w y.1):(Op.equalIn 10000 55 (kp x) (kp y)).run Tryz.prog w=.ok (decide (x=y)) w:=by
 have h:=Ch (P:=Tryz.prog) (w:=w) x y hx hy
 have:∀n,(Op.equalIn (n+1) 55 (kp x) (kp y)).run Tryz.prog w=.ok (decide (x=y)) w:=λn=>by
  simp [go_sem,Op.equalIn,kp,h]
 exact this 9999
theorem qL {w:World} (x:Nat×Nat) (hx:aO w x.1):∀(es:List MapEntry) (kv:List ((Nat×Nat)×(Nat×Nat))) (i:Nat),es.map (λe=>(e.key,e.val))=kv.map (λp=>(kp p.1,vp p.2))->(∀p∈kv,aO w p.1.1)->
  (fK x kv=none∧(Instr.findAsking 55 (kp x) es i).run Tryz.prog w=.ok none w)∨
  ∃j v,fK x kv=some v∧(Instr.findAsking 55 (kp x) es i).run Tryz.prog w=.ok (some (i+j,vp v)) w
 | [],kv,i,h,_=>by
  exact zz179
 | e ::es,kv,i,h,hl=>by
  cases kv with
  | nil=>simp at h
  | cons p kv=>
   simp only [List.map_cons,List.cons.injEq,Prod.mk.injEq] at h;obtain ⟨⟨h1,h2⟩,h3⟩:=h;have hc:=LW x p.1 hx (hl p List.mem_cons_self);have ih:=qL x hx es kv (i+1) h3 (λq hq=>hl q (List.mem_cons_of_mem _ hq));exact zz38
theorem qN {w:World} (x:Nat×Nat) (es:List MapEntry) (kv:List ((Nat×Nat)×(Nat×Nat))) (h:es.map (λe=>(e.key,e.val))=kv.map (λp=>(kp p.1,vp p.2))):
  (Instr.findKey 55 (kp x) es).run Tryz.prog w=(Instr.findAsking 55 (kp x) es 0).run Tryz.prog w:=by
 exact zz93
theorem oV {w:World} (x:Nat×Nat) (em:Bool):(Instr.checkKey em 10000 55 (kp x)).run Tryz.prog w=.ok () w:=by
 have:∀n,(Instr.checkKey em (n+1) 55 (kp x)).run Tryz.prog w=.ok () w:=λn=>by
  simp [go_sem,Instr.checkKey,kp]
 exact this 9999
theorem MP.aaE {w:World} {M:Nat} {kv:List ((Nat×Nat)×(Nat×Nat))} (h:MP w M kv) (hl:∀p∈kv,aO w p.1.1) (x:Nat×Nat) (hx:aO w x.1) {v:Nat×Nat} (hv:fK x kv=some v) (ok:Bool):(Instr.lookup 133 (.map (some M)) (kp x) ok).run Tryz.prog w=.ok (if ok then .tuple #[vp v,.bool true] else vp v) w:=by
 obtain ⟨es,c,h1,h2,-⟩:=h;have hf:=qN (w:=w) x es.toList kv h2;rcases qL x hx es.toList kv 0 h2 hl with ⟨g1,g2⟩ | ⟨j,u,g1,g2⟩
 .rw [hv] at g1;cases g1
 .rw [hv] at g1
  have e:v=u:=Option.some.inj g1;subst e;rw [g2] at hf;unfold Instr.lookup
  cases ok <;> simp [run_underlying Tryz.underlying133,MapKept.run_getObj_map h1,oV,hf]
theorem MP.WV {w:World} {M:Nat} {kv:List ((Nat×Nat)×(Nat×Nat))} (h:MP w M kv) (hl:∀p∈kv,aO w p.1.1) (x:Nat×Nat) (hx:aO w x.1) (hv:fK x kv=none) (ok:Bool):(Instr.lookup 133 (.map (some M)) (kp x) ok).run Tryz.prog w=.ok (if ok then .tuple #[vp (0,0),.bool false] else vp (0,0)) w:=by
 obtain ⟨es,c,h1,h2,-⟩:=h;have hf:=qN (w:=w) x es.toList kv h2;rcases qL x hx es.toList kv 0 h2 hl with ⟨g1,g2⟩ | ⟨j,u,g1,g2⟩
 .rw [g2] at hf
  unfold Instr.lookup
  cases ok <;> simp [run_underlying Tryz.underlying133,MapKept.run_getObj_map h1,oV,hf,vp]
 .rw [hv] at g1;cases g1
theorem MP.aa3 {w:World} (x:Nat×Nat) (ok:Bool):(Instr.lookup 133 (.map none) (kp x) ok).run Tryz.prog w=.ok (if ok then .tuple #[vp (0,0),.bool false] else vp (0,0)) w:=by
 have hf:(Instr.findKey 55 (kp x) []).run Tryz.prog w=.ok none w:=by
  rw [qN (w:=w) x [] [] rfl];simp [Instr.findAsking]
 unfold Instr.lookup
 cases ok <;> simp [run_underlying Tryz.underlying133,oV,vp,hf]
theorem MP.MR {w:World} {M:Nat} {kv:List ((Nat×Nat)×(Nat×Nat))} (h:MP w M kv) (hl:∀p∈kv,aO w p.1.1) (x:Nat×Nat) (hx:aO w x.1) (hv:fK x kv=none) (v:Nat×Nat):∃w',(Instr.mapUpdate 133 (.map (some M)) (kp x) (vp v)).run Tryz.prog w=.ok () w'∧MP w' M (kv++[(x,v)])∧w.grownBy w' (some M):=by
 obtain ⟨es,c,h1,h2,h3,h4⟩:=h;have hf:=qN (w:=w) x es.toList kv h2;rcases qL x hx es.toList kv 0 h2 hl with ⟨g1,g2⟩ | ⟨j,u,g1,g2⟩
 .rw [g2] at hf
  refine ⟨ChangeMaps.setBlock w M (.map (es.push {key:=kp x,val:=vp v,born:=c}) (c+1)),?_,?_,?_⟩
  .unfold Instr.mapUpdate
   simp [run_underlying Tryz.underlying133,MapKept.run_getObj_map h1,oV,hf,MapKept.run_setObj_map _ h1,Result.andThen,ChangeMaps.setBlock]
  .refine ⟨_,_,heap_setBlock_same h1 _,by simp [h2],?_,λy hy=>?_⟩
   .rw [Array.toList_push,List.map_append]
    exact zz142
   .rw [Array.toList_push] at hy
    exact zz144
  .exact ⟨rfl,rfl,rfl,by simp [ChangeMaps.setBlock],λi _ hi=>heap_setBlock_other h1 _ (λe=>hi (by rw [e]))⟩
 .rw [hv] at g1;cases g1
theorem Bz (w:World):(Instr.makeMap 133 none).run Tryz.prog w=.ok (.map (some w.heap.size)) (w.alloc (.map #[] 0)):=run_makeMap ..
theorem LX {w:World} (x y:Nat×Nat) (hx:aO w x.1) (hy:aO w y.1):(Op.equalIn 10000 145 (kp x) (kp y)).run Tryz.prog w=.ok (decide (x=y)) w:=by
 have h:=Ch (P:=Tryz.prog) (w:=w) x y hx hy
 have:∀n,(Op.equalIn (n+1) 145 (kp x) (kp y)).run Tryz.prog w=.ok (decide (x=y)) w:=λn=>by
  simp [go_sem,Op.equalIn,kp,h]
 exact this 9999
theorem qO {w:World} (x:Nat×Nat) (hx:aO w x.1):∀(es:List MapEntry) (kv:List ((Nat×Nat)×(Nat×Nat))) (i:Nat),es.map (λe=>(e.key,e.val))=kv.map (λp=>(kp p.1,vp p.2))->(∀p∈kv,aO w p.1.1)->
  (fK x kv=none∧(Instr.findAsking 145 (kp x) es i).run Tryz.prog w=.ok none w)∨
  ∃j v,fK x kv=some v∧(Instr.findAsking 145 (kp x) es i).run Tryz.prog w=.ok (some (i+j,vp v)) w
 | [],kv,i,h,_=>by
  exact zz179
 | e ::es,kv,i,h,hl=>by
  cases kv with
  | nil=>simp at h
  | cons p kv=>
   simp only [List.map_cons,List.cons.injEq,Prod.mk.injEq] at h;obtain ⟨⟨h1,h2⟩,h3⟩:=h;have hc:=LX x p.1 hx (hl p List.mem_cons_self);have ih:=qO x hx es kv (i+1) h3 (λq hq=>hl q (List.mem_cons_of_mem _ hq));exact zz38
theorem qP {w:World} (x:Nat×Nat) (es:List MapEntry) (kv:List ((Nat×Nat)×(Nat×Nat))) (h:es.map (λe=>(e.key,e.val))=kv.map (λp=>(kp p.1,vp p.2))):
  (Instr.findKey 145 (kp x) es).run Tryz.prog w=(Instr.findAsking 145 (kp x) es 0).run Tryz.prog w:=by
 exact zz93
theorem oW {w:World} (x:Nat×Nat) (em:Bool):(Instr.checkKey em 10000 145 (kp x)).run Tryz.prog w=.ok () w:=by
 have:∀n,(Instr.checkKey em (n+1) 145 (kp x)).run Tryz.prog w=.ok () w:=λn=>by
  simp [go_sem,Instr.checkKey,kp]
 exact this 9999
theorem MP.aae {w:World} {M:Nat} {kv:List ((Nat×Nat)×(Nat×Nat))} (h:MP w M kv) (hl:∀p∈kv,aO w p.1.1) (x:Nat×Nat) (hx:aO w x.1) {v:Nat×Nat} (hv:fK x kv=some v) (ok:Bool):(Instr.lookup 136 (.map (some M)) (kp x) ok).run Tryz.prog w=.ok (if ok then .tuple #[vp v,.bool true] else vp v) w:=by
 obtain ⟨es,c,h1,h2,-⟩:=h;have hf:=qP (w:=w) x es.toList kv h2;rcases qO x hx es.toList kv 0 h2 hl with ⟨g1,g2⟩ | ⟨j,u,g1,g2⟩
 .rw [hv] at g1;cases g1
 .rw [hv] at g1
  have e:v=u:=Option.some.inj g1;subst e;rw [g2] at hf;unfold Instr.lookup
  cases ok <;> simp [run_underlying Tryz.underlying136,MapKept.run_getObj_map h1,oW,hf]
theorem MP.Ia {w:World} {M:Nat} {kv:List ((Nat×Nat)×(Nat×Nat))} (h:MP w M kv) (hl:∀p∈kv,aO w p.1.1) (x:Nat×Nat) (hx:aO w x.1) (hv:fK x kv=none) (ok:Bool):(Instr.lookup 136 (.map (some M)) (kp x) ok).run Tryz.prog w=.ok (if ok then .tuple #[vp (0,0),.bool false] else vp (0,0)) w:=by
 obtain ⟨es,c,h1,h2,-⟩:=h;have hf:=qP (w:=w) x es.toList kv h2;rcases qO x hx es.toList kv 0 h2 hl with ⟨g1,g2⟩ | ⟨j,u,g1,g2⟩
 .rw [g2] at hf
  unfold Instr.lookup
  cases ok <;> simp [run_underlying Tryz.underlying136,MapKept.run_getObj_map h1,oW,hf,vp]
 .rw [hv] at g1;cases g1
theorem MP.Yr {w:World} (x:Nat×Nat) (ok:Bool):(Instr.lookup 136 (.map none) (kp x) ok).run Tryz.prog w=.ok (if ok then .tuple #[vp (0,0),.bool false] else vp (0,0)) w:=by
 have hf:(Instr.findKey 145 (kp x) []).run Tryz.prog w=.ok none w:=by
  rw [qP (w:=w) x [] [] rfl];simp [Instr.findAsking]
 unfold Instr.lookup
 cases ok <;> simp [run_underlying Tryz.underlying136,oW,vp,hf]
theorem MP.MJ {w:World} {M:Nat} {kv:List ((Nat×Nat)×(Nat×Nat))} (h:MP w M kv) (hl:∀p∈kv,aO w p.1.1) (x:Nat×Nat) (hx:aO w x.1) (hv:fK x kv=none) (v:Nat×Nat):∃w',(Instr.mapUpdate 136 (.map (some M)) (kp x) (vp v)).run Tryz.prog w=.ok () w'∧MP w' M (kv++[(x,v)])∧w.grownBy w' (some M):=by
 obtain ⟨es,c,h1,h2,h3,h4⟩:=h;have hf:=qP (w:=w) x es.toList kv h2;rcases qO x hx es.toList kv 0 h2 hl with ⟨g1,g2⟩ | ⟨j,u,g1,g2⟩
 .rw [g2] at hf
  refine ⟨ChangeMaps.setBlock w M (.map (es.push {key:=kp x,val:=vp v,born:=c}) (c+1)),?_,?_,?_⟩
  .unfold Instr.mapUpdate
   simp [run_underlying Tryz.underlying136,MapKept.run_getObj_map h1,oW,hf,MapKept.run_setObj_map _ h1,Result.andThen,ChangeMaps.setBlock]
  .refine ⟨_,_,heap_setBlock_same h1 _,by simp [h2],?_,λy hy=>?_⟩
   .rw [Array.toList_push,List.map_append]
    exact zz142
   .rw [Array.toList_push] at hy
    exact zz144
  .exact ⟨rfl,rfl,rfl,by simp [ChangeMaps.setBlock],λi _ hi=>heap_setBlock_other h1 _ (λe=>hi (by rw [e]))⟩
 .rw [hv] at g1;cases g1
theorem Bv (w:World):(Instr.makeMap 136 none).run Tryz.prog w=.ok (.map (some w.heap.size)) (w.alloc (.map #[] 0)):=run_makeMap ..
theorem zz5 {P:Prop} (h:P:=by
 have GM:MP V3 M (bF O 0 (K++[(b,n+1)])):=by rw [uk,hi];exact MH
 have k3:Kept (λd=>d≠M) (X.alloc (.cells #[.int .i64 i,.int .i64 n] 182)).drew V3:=Kept.grown hg3 (λb e hb=>hb (Option.some.inj e).symm);have h3:=uj.CE (km':=K++[(b,n+1)]) rfl m2 hg3 GM (λe he=>by
  rcases List.mem_append.1 he with he | he
  .exact uj.lv e (List.mem_append.2 (.inl he))
  .have:e=(b,n+1):=by simpa using he
   rw [this];exact uj.lv (b,n) (by simp))
 obtain ⟨xs,ys,e1,e2,e3⟩:=wD fs K b n (n+1);have ho3:=h3.ow;rw [e1,List.length_append,hi] at ho3;have MK:(V3.setCell ⟨r,xs.length,none⟩ (.int .i64 ((n:Int)+1))).ownsRow _ _ _ _ _ (xs++.int .i64 ((n+1:Nat):Int)::ys):=jq ho3 (.int .i64 ((n+1:Nat):Int));rw [e3,hi,<- e2] at MK;have k4:Kept (λd=>d≠r) V3 (V3.setCell ⟨r,i * 5+3,none⟩ (.int .i64 ((n:Int)+1))):=Kept.setCell _ _ _ _ (by simp);have h4:=h3.vo (ks':=K++[(b,n+1)]) (fs':=fs) k4 (by rw [List.length_append,hi];exact MK);have z3:X.heap.size+1<=V3.heap.size:=by
  have:=k3.size
  simpa using this
 have r6:=(((q6.kept k2 trivial).kept (Kept.drew (λ_=>True) _) trivial).kept k3 (λe=>ME e.symm)).kept k4 (λe=>MF e.symm);have r7:=((q7.kept (Kept.drew (λ_=>True) _) trivial).kept k3 (by omega)).kept k4 (by omega);have k5:Kept (λd=>d≠x6) (V3.setCell ⟨r,i * 5+3,none⟩ (.int .i64 ((n:Int)+1))) (((V3.setCell ⟨r,i * 5+3,none⟩ (.int .i64 ((n:Int)+1))).setCell ⟨x6,0,none⟩ (.int .i64 i)).setCell ⟨x6,1,none⟩ (.int .i64 n)):=((Kept.refl _ _).set (by simp)).set (by simp);have h5:=h4.off k5 h6 (λM' e=>by cases e;exact ME) (λb' e=>by have:r=b':=Option.some.inj e;rw [<- this];exact MF);have he:(K++[(b,n)])[i]? =some (b,n):=by rw [List.getElem?_append_right (by omega)];simp [hi]
 have rd:∀W' km',GS O lo G W' km' (K++[(b,n)]) (.map (some M)) (.slice (some ⟨r,0,none⟩) (i+1) cap) fs->W'.cell? ⟨r,i * 5+3,none⟩=some (.int .i64 n)∧W'.frozen? ⟨r,i * 5+3,none⟩=false:=λW' km' hw=>by
  have ho:=hw.ow;rw [List.length_append,hi] at ho;exact ⟨aL ho (i * 5+3) _ (bO fs he (j:=3) rfl),iY ho _⟩
 exact ⟨V3,hput,h.gs,(rd X _ h).1,h2.gm,uj.gm,h3.gs,(rd V3 _ h3).1,(rd V3 _ h3).2,r7.ae 0 _ rfl,r7.ae 1 _ rfl,r6.ae 0 _ rfl,r6.ae 1 _ rfl,r6.live 0,r6.live 1,h5,((((k2.mono (λ_ _ _=>trivial)).trans (Kept.drew _ _)).trans (k3.mono (λd _ hd=>hd.1))).trans (k4.mono (λd _ hd=>hd.2.1))).trans (k5.mono (λd _ hd=>hd.2.2))⟩):P:=h
theorem zz8 {P:Prop} (h:P:=by
 obtain ⟨v2,hv2⟩:∃v2,v1.alloc (.cells #[.int .i64 i,.int .i64 j] 182)=v2:=⟨_,rfl⟩
 have K2:Hid (Kept (λ_=>True) V v2):=by unfold Hid;rw [<- hv2];exact K1.out.trans (Kept.alloc _ _ _)
 have B2:Hid (Bx v2 v1.heap.size [.int .i64 i,.int .i64 j]):=by unfold Hid;rw [<- hv2];exact Bx.new _ _ _
 obtain ⟨x,hx⟩:∃x,v1.heap.size=x:=⟨_,rfl⟩
 rw [hv2];rw [hx] at B2 ⊢;clear hv2 hx K1 c0 rl HW;have k0:=gQ.out v2 K2.out;have k1:=gQ.out v2.drew (K2.out.trans (Kept.drew _ _));have k2:=gQ.out (v2.alloc (.cells #[.int .i64 0,.int .i64 0,.int .i64 0,.int .i64 0,.int .i64 0] 188)) (K2.out.trans (Kept.alloc _ _ _));have k3:=gQ.out (v2.alloc (.cells #[.int .i64 0,.int .i64 0,.int .i64 0,.int .i64 0,.int .i64 0] 188)).drew ((K2.out.trans (Kept.alloc _ _ _)).trans (Kept.drew _ _));have x0:=B2.out.ae 0 _ rfl;have x1:=(B2.out.kept (Kept.drew (λ_=>True) _) trivial).ae 0 _ rfl;have x2:=(B2.out.kept (Kept.alloc (λ_=>True) v2 (.cells #[.int .i64 0,.int .i64 0,.int .i64 0,.int .i64 0,.int .i64 0] 188)) trivial).ae 0 _ rfl;have x3:=((B2.out.kept (Kept.alloc (λ_=>True) v2 (.cells #[.int .i64 0,.int .i64 0,.int .i64 0,.int .i64 0,.int .i64 0] 188)) trivial).kept (Kept.drew (λ_=>True) _) trivial).ae 0 _ rfl
 go_cut [6] (λs wx=>∃y,s=.pointer (some ⟨y,0,none⟩)∧Bx wx y [.int .i64 i,.int .i64 0,.int .i64 0,.int .i64 e2,.int .i64 f]∧Kept (λ_=>True) v2 wx)
 case first=>
  go_region
  all_goals
   go_wp2_with fail;go_meet
   case rel=>exact ⟨_,rfl,(Bx.new _ _ _).kept (Kept.drew (λ_=>True) _) trivial,(Kept.alloc _ _ _).trans (Kept.drew _ _)⟩
 case rest=>
 obtain ⟨y,rfl,hy,hk⟩:=hcut
 rename World=>v3
 have y4:=hy.ae 4 _ rfl;have y2:=hy.ae 2 _ rfl;have z1:=(B2.out.kept hk trivial).ae 1 _ rfl;have Wx:=hide (K2.out.trans hk);clear k0 k1 k2 k3 x0 x1 x2 x3 hk hy;go_wp2_with fail;go_ret;exact ⟨by simp,Wx.out⟩):P:=h
theorem zz37 {P:Prop} (h:P:=by
 have hl:=(List.getElem?_eq_some_iff.1 h).1;have hK:K=K.take i++e ::K.drop (i+1):=by
  have h1:=List.take_append_drop i K;have h2:K.drop i=e ::K.drop (i+1):=by
   rw [List.drop_eq_getElem_cons hl];congr 1;exact (List.getElem?_eq_some_iff.1 h).2
  rw [<- h2];exact h1.symm
 have hj:j < 5:=by
  have:=(List.getElem?_eq_some_iff.1 hv).1
  simpa using this
 have ht:(K.take i).length=i:=by rw [List.length_take];omega
 rw [hK,eB,List.getElem?_append_right (by rw [iE,ht];omega),iE,ht,Nat.zero_add,strs,List.getElem?_append_left (by simp;omega)];have e1:i * 5+j - i * 5=j:=by omega
 rw [e1];exact hv):P:=h
theorem zz42 {P:Prop} (h:P:=by
 have hd:=az HOW.out d e;refine ⟨?_,?_,hd⟩
 .rcases HOW.out.2 with ⟨h3,-⟩ | ⟨b',cap',cur,h3,-⟩
  .rw [h3] at e;simp [Value.ownBlock] at e
  .have e1:b'=d:=by rw [h3] at e;exact Option.some.inj e
   rw [<- e1];exact λe2=>hR.nM rfl h3 e2.symm
 .have h0:=h.ow
  rw [hi] at h0;rcases h0.2 with ⟨h3,-⟩ | ⟨b',cap',cur,h3,-,hg,-⟩
  .rw [h3] at e;simp [Value.ownBlock] at e
  .have e1:b'=d:=by rw [h3] at e;exact Option.some.inj e
   have:=(Array.getElem?_eq_some_iff.1 hg).1
   omega):P:=h
theorem zz51 {P:Prop} (h:P:=by
 have kk:=yf.out.trans k;have k3:Kept (λd=>d < V.heap.size) V' ((V'.setCell ⟨V.heap.size+1,0,none⟩ (.int .i64 i)).setCell ⟨V.heap.size+1,1,none⟩ (.int .i64 j)):=((Kept.refl _ _).set (by simp)).set (by simp);have k4:Kept (λd=>d < V.heap.size) V ((V'.setCell ⟨V.heap.size+1,0,none⟩ (.int .i64 i)).setCell ⟨V.heap.size+1,1,none⟩ (.int .i64 j)):=(kk.mono (λ_ _ _=>trivial)).trans k3;exact k4.mono (λb hb _=>hb)):P:=h
theorem zz55 {P:Prop} (h:P:=by
 intro s K
 induction K generalizing s with
 | nil=>intro i h;simp at h
 | cons a K ih=>
  intro i h
  cases i with
  | zero=>
   have:a=e:=by simpa using h
   subst this;simp only [bF,List.mem_append,List.mem_map,List.mem_range];exact .inl ⟨j,hj,rfl⟩
  | succ i=>
   have:=ih (s+1) i (by simpa using h)
   simp only [bF,List.mem_append];have e1:s+1+i=s+(i+1):=by omega
   rw [e1] at this;exact .inr this):P:=h
theorem zz63 {P:Prop} (h:P:=by
 refine ⟨World.cell?_setCell_same _ _ _ h1.gm,?_,λj=>?_,.inr ⟨_,rfl,?_,hv⟩,aj h1.ow k2 (λb e=>by have:=az h1.ow b e;omega),λe he=>(by cases he),by have:=k2.size;have:=k1.size;omega,hg⟩
 .rw [World.cell?_setCell_other _ _ _ _ (by simp)];exact h1.gs
 .rw [World.frozen?_setCell];exact h1.gf j
 .exact (MP.start V).kept k2 (by omega)):P:=h
theorem zz70 {P:Prop} (h:P:=by
 have hg:=h.hg;have hv:=h.hv;refine ⟨h0,h1,h2,?_,aj h.ow k (λb e=>by have:=az h.ow b e;omega),λe he=>⟨(h.lv e he).1.kept k (h.lv e he).1.lt (h.lv e he).2.2,(h.lv e he).2⟩,by have:=k.size;omega,hg⟩;rcases h.mp with h1 | ⟨M,h1,h2,h3⟩
 .exact .inl h1
 .exact .inr ⟨M,h1,h2.kept k (by omega),h3⟩):P:=h
theorem zz71 {P:Prop} (h:P:=by
 have l1:=(List.getElem?_eq_some_iff.1 p1).1;have l2:=(List.getElem?_eq_some_iff.1 q1).1;have m1:(K.map Prod.fst)[k]? =some a.1:=by rw [List.getElem?_map,p1];rfl
 have m2:(K.map Prod.fst)[k']? =some a'.1:=by rw [List.getElem?_map,q1];rfl
 rw [hb,<- m2] at m1;exact (List.getElem?_inj (by simpa using l1) hn).1 m1):P:=h
theorem zz72 {P:Prop} (h:P:=by
 exact ((fU.out.mono (λd hd h=>⟨h.1,h.2.1⟩)).trans (kC.out.2.mono (λd _ h=>⟨h.2.2.1,h.2.2.2.1,h.2.2.2.2⟩)):Kept (λd=>d≠G∧(Value.slice a i cap0).ownBlock≠some d∧d≠M∧d≠r∧d≠V.heap.size) V _).mono (λd hd h=>⟨h.1,h.2,by have:=NW.out;omega,HX.out.2.1 d hd h.2,by omega⟩)):P:=h
theorem zz73 {P:Prop} (h:P:=by
 refine ⟨h.gm,h.gs,h.gf,?_,h.ow,λe he=>?_,h.hv,h.hg⟩
 .rcases h.mp with ⟨-,h1⟩ | ⟨M',h1,h2,h3⟩
  .rw [hm] at h1;cases h1
  .exact .inr ⟨M',h1,by rw [uq];exact h2,h3⟩
 .rcases List.mem_append.1 he with he | he
  .exact h.lv e he
  .have:e=(b,0):=by simpa using he
   rw [this];exact hb):P:=h
theorem zz74 {P:Prop} (h:P:=by
 have hg:=h.hg;have hv:=h.hv;refine ⟨h0,h1,h2,?_,aj h.ow k (λb e=>hS b (.inr e)),λe he=>⟨(h.lv e he).1.kept k (h.lv e he).1.lt (hL e he),(h.lv e he).2⟩,by have:=k.size;omega,hg⟩;rcases h.mp with h1 | ⟨M,h1,h2,h3⟩
 .exact .inl h1
 .exact .inr ⟨M,h1,h2.kept k (hS M (.inl h1)),h3⟩):P:=h
theorem zz75 {P:Prop} (h:P:=by
 exact ((fU.out.mono (λd hd h=>⟨h.1,h.2.1⟩)).trans (kC.out.2.mono (λd _ h=>⟨h.2.2.1,h.2.2.2.1,h.2.2.2.2⟩)):Kept (λd=>d≠G∧(Value.slice a i cap0).ownBlock≠some d∧d≠M∧d≠r∧d≠V.heap.size) V _).mono (λd hd h=>⟨h.1,h.2.2,h.2.1,HX.out.2.1 d hd h.2.2,by omega⟩)):P:=h
theorem zz82 {P:Prop} (h:P:=by
 rcases h.mp with ⟨-,h1⟩ | ⟨M',h1,⟨es,c,h2,-⟩,-⟩
 .rw [hm] at h1;cases h1
 .rw [hm] at h1
  cases h1
  have ho:=h.ow;rcases ho.2 with ⟨h3,-⟩ | ⟨b',cap',cur,h3,hb,hg',-⟩
  .rw [hs] at h3;cases h3
  .rw [hs] at h3
   cases h3
   rw [<- e,h2] at hg'
   cases hg'):P:=h
theorem zz85 {P:Prop} (h:P:=by
 unfold fK
 by_cases e:p.1=x
 .rw [if_pos e,hu p List.mem_cons_self (x,v) h e]
 .rw [if_neg e]
  refine nP r ?_ (λa ha b hb=>hu a (List.mem_cons_of_mem _ ha) b (List.mem_cons_of_mem _ hb));rcases List.mem_cons.1 h with h | h
  .exact absurd (by rw [<- h]) e
  .exact h):P:=h
theorem zz94 {P:Prop} (h:P:=by
 have h':=h.kept k;exact ⟨h'.gs,aL h'.ow (i * 5) _ (bO fs he (j:=0) rfl),aL h'.ow (i * 5+1) _ (bO fs he (j:=1) rfl),aL h'.ow (i * 5+2) _ (bO fs he (j:=2) rfl),aL h'.ow (i * 5+3) _ (bO fs he (j:=3) rfl),aL h'.ow (i * 5+4) _ (bO fs he (j:=4) rfl)⟩):P:=h
theorem zz98 {P:Prop} (h:P:=by
 simp only [bF,List.mem_append,List.mem_map,List.mem_range] at h;rcases h with ⟨j,hj,rfl⟩ | h
 .exact ⟨0,e,rfl,rfl,rfl,hj,rfl⟩
 .obtain ⟨k,e',h1,h2,h3,h4,h5⟩:=dG (i+1) K p h
  exact ⟨k+1,e',by simpa using h1,h2,by omega,h4,h5⟩):P:=h
theorem zz101 {P:Prop} (h:P:=by
 have h':=h.kept (k2.trans k);have r3:=q3.kept k trivial;have r4:=q4.kept k trivial;exact ⟨⟨h'.gs,aL h'.ow (i * 5) _ (bO fs he (j:=0) rfl)⟩,⟨r3.ae 0 _ rfl,r3.ae 1 _ rfl⟩,⟨r4.ae 0 _ rfl,r4.ae 1 _ rfl⟩,r4.live 0,r4.live 1⟩):P:=h
theorem zz115 {P:Prop} (h:P:=by
 have ho:=h.ow;rw [List.length_append,hi] at ho
 have:=ownsRow_le ho
 omega):P:=h
theorem zz119 {P:Prop} (h:P:=by
 rw [World.cell?_setCell_other _ _ _ _ (by simp <;> omega),kG.cell (p:=⟨G,j,none⟩) (by show G < _;omega) (.inl gG),kR.cell (p:=⟨G,j,none⟩) (by show G < _;omega) trivial];exact zU j j0):P:=h
theorem zz124 {P:Prop} (h:P:=by
 rw [<- lN,World.cell?_setCell_other _ _ _ _ (by simp <;> omega),kA.cell (p:=⟨G,j,none⟩) (by show G < _;omega) trivial,kB.cell (p:=⟨G,j,none⟩) (by show G < _;omega) trivial]):P:=h
theorem zz138 {P:Prop} (h:P:=by
 refine ⟨strs fs 0 K++[.int .i64 K.length,.int .i64 0,.int .i64 0],[.int .i64 (fs K.length)],?_,?_,?_⟩
 .rw [eB];simp [strs]
 .rw [eB];simp [strs]
 .simp [iE]):P:=h
theorem zz139 {P:Prop} (h:P:=by
 rw [e0,e2] at h1;rw [e0] at h3 h4 h5 h7 h9 h10 h11 h12 Ik Il Im;rw [e1] at h9 h10 h11 h12 Ik Il Im;exact ⟨h1,h2,h3,h4,h5,h6,h7,h8,h9,h10,h11,h12,Ik,Il,Im⟩):P:=h
theorem zz146 {P:Prop} (h:P:=by
 have:=eB fs (i+1) K L
 simp only [List.cons_append,strs,this,List.append_assoc,List.length_cons];have e1:i+1+K.length=i+(K.length+1):=by omega
 rw [e1]):P:=h
theorem zz151 {P:Prop} (h:P:=by
 have:=jr (i+1) K L
 simp only [List.cons_append,bF,this,List.append_assoc,List.length_cons];have e1:i+1+K.length=i+(K.length+1):=by omega
 rw [e1]):P:=h
theorem zz158 {P:Prop} (h:P:=by
 rw [<- hV2]
 have:=Bx.new (V.alloc (.cells #[.int .i64 i,.int .i64 j] 182)) [.int .i64 0,.int .i64 0] 182
 rwa [World.size_alloc] at this):P:=h
theorem zz161 {P:Prop} (h:P:=by
 rcases h.ow.2 with ⟨-,h2⟩ | ⟨b,cap,cur,h1,h2,h3,h4,-⟩
 .omega
 .exact ⟨b,cap,h1,h2,(Array.getElem?_eq_some_iff.1 h3).1,h4⟩):P:=h
theorem zz178 {P:Prop} (h:P:=by
 rcases o3 with o3 | o3
 .exact (rH r o3).2.1
 .have:=kB.size
  have z4:VM.heap.size<=VR.heap.size:=zR;have z5:=qM.lt;omega):P:=h
theorem zz187 {P:Prop} (h:P:=by
 rcases h.ow.2 with ⟨h1,h2⟩ | ⟨b,cap,cur,h1,-⟩
 .exact ⟨none,0,by rw [h2];exact h1⟩
 .exact ⟨_,_,h1⟩):P:=h
theorem zz198 {P:Prop} (h:P:=by
 unfold fK;rw [if_neg (h p List.mem_cons_self)];exact jH r (λq hq=>h q (List.mem_cons_of_mem _ hq))):P:=h
theorem zz200 {P:Prop} (h:P:=by
 exact ((fU.out.mono (λ_ _ _=>trivial)).trans kC.out.2).mono (λd hd h=>⟨h.1,h.2,by omega⟩)):P:=h
theorem zz206 {P:Prop} (h:P:=by
 rcases h.mp with ⟨-,h1⟩ | ⟨M',h1,h2,h3⟩
 .cases h1
 .cases h1
  exact ⟨h2,h3,h2.lt⟩):P:=h
theorem zz208 {P:Prop} (h:P:=by
 rcases h.mp with ⟨h1,-⟩ | ⟨M,h1,h2,-⟩
 .rw [h1] at hi;simp at hi
 .exact ⟨M,h1,h2⟩):P:=h
theorem zz218 {P:Prop} (h:P:=by
 simp only [strs,List.length_append,iE fs (i+1) K,List.length_cons,List.length_nil];omega):P:=h
theorem zz236 {P:Prop} (h:P:=by
 first | exact kC.out V2 (Kept.refl _ _) | exact kC.out V2.drew (Kept.drew _ _)):P:=h
theorem exists_least {p:Nat->Prop}:∀n,p n->∃m,p m∧∀k,p k->m<=k:=by
 intro n
 induction n using Nat.strongRecOn with
 | _ n ih=>
  intro hn
  by_cases h:∃k,k < n∧p k
  .obtain ⟨k,hk,hp⟩:=h
   exact ih k hk hp
  .exact ⟨n,hn,λk hk=>Nat.not_lt.1 (λhlt=>h ⟨k,hlt,hk⟩)⟩
open Classical in
noncomputable def least (p:Nat->Prop):Nat:=if h:∃m,p m∧∀k,p k->m<=k then Classical.choose h else 0
theorem oK {p:Nat->Prop} (h:∃n,p n):p (least p):=by
 exact zz183
theorem least_le {p:Nat->Prop} {n:Nat} (h:p n):least p<=n:=by
 exact zz201
theorem aL {W:World} {B g cap n sz:Nat} {e:TypeId} {xs:List Value} (h:W.ownsRow B e sz (.slice (some ⟨g,0,none⟩) n cap) n xs) (j:Nat) (v:Value) (hv:xs[j]? =some v):W.cell? ⟨g,j,none⟩=some v:=by
 exact zz86
theorem iY {W:World} {B g cap n sz:Nat} {e:TypeId} {xs:List Value} (h:W.ownsRow B e sz (.slice (some ⟨g,0,none⟩) n cap) n xs) (j:Nat):W.frozen? ⟨g,j,none⟩=false:=by
 exact zz181
theorem ownsRow_le {W:World} {B g cap n sz:Nat} {e:TypeId} {xs:List Value} (h:W.ownsRow B e sz (.slice (some ⟨g,0,none⟩) n cap) n xs):B<=g∧g < W.heap.size∧n<=cap∧cap<=maxLen:=by
 exact zz141
theorem Dg {W:World} {B g cap n m sz:Nat} {e:TypeId} {xs ys:List Value} (h:W.ownsRow B e sz (.slice (some ⟨g,0,none⟩) (n+m) cap) (n+m) (xs++ys)) (hl:xs.length=n * sz):W.ownsRow B e sz (.slice (some ⟨g,0,none⟩) n cap) n xs:=by
 rcases h.2 with ⟨h1,h2⟩ | ⟨b,cap',cur,hv',hb,hg,hnc,hcm,hcs,ht⟩
 .cases h1
 .cases hv'
  refine ⟨hl,.inr ⟨g,cap,cur,rfl,hb,hg,by omega,hcm,hcs,?_⟩⟩
  have:(cur.toList.take ((n+m)* sz)).take (n * sz)=xs:=by
   rw [ht,<- hl]
   simp
  rw [List.take_take] at this;rw [<- this,Nat.min_eq_left (Nat.mul_le_mul_right _ (by omega))]
theorem az {W:World} {B n sz:Nat} {e:TypeId} {v:Value} {xs:List Value} (h:W.ownsRow B e sz v n xs):∀b,v.ownBlock=some b->B<=b:=λb e=>by
 rcases h.2 with ⟨rfl,-⟩ | ⟨g,cap,cur,rfl,hb,-⟩
 .simp [Value.ownBlock] at e
 .have:g=b:=Option.some.inj e
  omega
def Gr.fr (g:Gr) (e:Nat×Nat):List Value:=[.int .i64 e.1,.int .i64 e.2,.int .i64 (gT g.sT (g.fst e.1) e.2)]
def Gr.lY (g:Gr) (l:List (Nat×Nat)):List Value:=l.reverse.flatMap g.fr
theorem Gr.lC (g:Gr) (f:Nat×Nat) (l:List (Nat×Nat)):g.lY (f ::l)=g.lY l++g.fr f:=by simp [Gr.lY]
theorem Gr.rV (g:Gr):∀l:List (Nat×Nat),(g.lY l).length=l.length * 3
 | []=>rfl
 | f ::l=>by
  rw [g.lC,List.length_append,g.rV l,List.length_cons];simp [Gr.fr];omega
structure MC (g:Gr) (W0:World) (lo G nb gy B tb lb ct cl cn cm:Nat):Prop where
 ok:g.Ok
 hB:W0.heap.size<=B∧B < lo
 ht:W0.heap.size<=tb∧tb < lo
 hl:W0.heap.size<=lb∧lb < lo
 ne:B≠tb∧B≠lb∧tb≠lb
 nc:g.nt<=ct∧g.nl<=cl∧g.nt<=cn∧g.nl<=cm
 n8:W0.cell? ⟨G,8,none⟩=some (.slice (some ⟨nb,0,none⟩) g.nt cn)
 n9:W0.cell? ⟨G,9,none⟩=some (.slice (some ⟨gy,0,none⟩) g.nl cm)
 nd:∀k,k < g.nt->W0.cell? ⟨nb,k * 3+1,none⟩=some (.int .i64 (g.pl k))∧W0.cell? ⟨nb,k * 3+1+1,none⟩=some (.int .i64 (g.ql k))
 wg:∀k,k < g.nt->∀V,Below W0.heap.size W0 V->Calls Tryz.prog 50 #[.pointer (some ⟨g.cp,0,none⟩),.int .i64 (k:Int)] V λe V'=>e=.returned (.int .i64 (g.w k:Int))∧Kept (λ_=>True) V V'
 ls:∀l,l < g.nl->W0.cell? ⟨gy,l * 2,none⟩=some (.int .i64 (g.fst l))∧W0.cell? ⟨gy,l * 2+1,none⟩=some (.int .i64 (g.cnt l))
structure MS (g:Gr) (W0:World) (lo G B tb lb ct cl:Nat) (V:World) (T L:Nat->Int) (st:List (Nat×Nat)) (sv:Value):Prop where
 be:Below W0.heap.size W0 V
 bx:Bx V B [.pointer (some ⟨G,0,none⟩),.func (.func 50) #[.pointer (some ⟨g.cp,0,none⟩)] #[],.slice (some ⟨tb,0,none⟩) g.nt ct,.slice (some ⟨lb,0,none⟩) g.nl cl,sv]
 tr:∀k,k < g.nt->V.cell? ⟨tb,k,none⟩=some (.int .i64 (T k))
 tf:∀j,V.frozen? ⟨tb,j,none⟩=false
 lr:∀l,l < g.nl->V.cell? ⟨lb,l,none⟩=some (.int .i64 (L l))
 lf:∀j,V.frozen? ⟨lb,j,none⟩=false
 ow:V.ownsRow lo 197 3 sv st.length (g.lY st)
 hv:lo<=V.heap.size
section
variable {g:Gr} {W0:World} {lo G nb gy B tb lb ct cl cn cm:Nat} {V:World} {T L:Nat->Int} {st:List (Nat×Nat)} {sv:Value}
theorem MS.kept (c:MC g W0 lo G nb gy B tb lb ct cl cn cm) (h:MS g W0 lo G B tb lb ct cl V T L st sv) {V':World} (k:Kept (λ_=>True) V V'):MS g W0 lo G B tb lb ct cl V' T L st sv:=by
 have z:=h.hv;refine ⟨h.be.trans (k.below (λ_ _=>trivial) (by have:=h.be.size;omega)),h.bx.kept k trivial,λi hi=>?_,λj=>?_,λi hi=>?_,λj=>?_,aj h.ow k (λ_ _=>trivial),by have:=k.size;omega⟩
 .rw [k.cell (p:=⟨tb,i,none⟩) (by have:=c.ht;show tb < _;omega) trivial];exact h.tr i hi
 .rw [k.frozen (p:=⟨tb,j,none⟩) (by have:=c.ht;show tb < _;omega) trivial];exact h.tf j
 .rw [k.cell (p:=⟨lb,i,none⟩) (by have:=c.hl;show lb < _;omega) trivial];exact h.lr i hi
 .rw [k.frozen (p:=⟨lb,j,none⟩) (by have:=c.hl;show lb < _;omega) trivial];exact h.lf j
theorem MS.mR (c:MC g W0 lo G nb gy B tb lb ct cl cn cm) (h:MS g W0 lo G B tb lb ct cl V T L st sv) {p:Nat} (hp:p < g.nl) (v:Int):MS g W0 lo G B tb lb ct cl (V.setCell ⟨lb,p,none⟩ (.int .i64 v)) T (upd L p v) st sv:=by
 obtain ⟨n1,n2,n3⟩:=c.ne;have z:=h.hv;have hl:=c.hl;have k:Kept (λd=>d≠lb) V (V.setCell ⟨lb,p,none⟩ (.int .i64 v)):=Kept.setCell _ _ _ _ (by simp);refine ⟨h.be.setCell (by show _<=lb;omega) _,h.bx.kept k (by omega),λi hi=>?_,λj=>?_,λi hi=>?_,λj=>?_,aj h.ow k (λb e=>by have:=az h.ow b e;omega),by simpa [World.setCell] using z⟩
 .rw [k.cell (p:=⟨tb,i,none⟩) (by have:=c.ht;show tb < _;omega) (by show tb≠lb;omega)];exact h.tr i hi
 .rw [World.frozen?_setCell];exact h.tf j
 .by_cases e:i=p
  .subst e
   rw [upd_same];exact World.cell?_setCell_same _ _ _ (h.lr i hi)
  .rw [upd_ne _ _ e,World.cell?_setCell_other _ _ _ _ (λq=>e (by cases q;rfl))]
   exact h.lr i hi
 .rw [World.frozen?_setCell];exact h.lf j
theorem MS.aad (c:MC g W0 lo G nb gy B tb lb ct cl cn cm) (h:MS g W0 lo G B tb lb ct cl V T L st sv) {p:Nat} (hp:p < g.nt) (v:Int):MS g W0 lo G B tb lb ct cl (V.setCell ⟨tb,p,none⟩ (.int .i64 v)) (upd T p v) L st sv:=by
 obtain ⟨n1,n2,n3⟩:=c.ne;have z:=h.hv;have hl:=c.ht;have k:Kept (λd=>d≠tb) V (V.setCell ⟨tb,p,none⟩ (.int .i64 v)):=Kept.setCell _ _ _ _ (by simp);refine ⟨h.be.setCell (by show _<=tb;omega) _,h.bx.kept k (by omega),λi hi=>?_,λj=>?_,λi hi=>?_,λj=>?_,aj h.ow k (λb e=>by have:=az h.ow b e;omega),by simpa [World.setCell] using z⟩
 .by_cases e:i=p
  .subst e
   rw [upd_same];exact World.cell?_setCell_same _ _ _ (h.tr i hi)
  .rw [upd_ne _ _ e,World.cell?_setCell_other _ _ _ _ (λq=>e (by cases q;rfl))]
   exact h.tr i hi
 .rw [World.frozen?_setCell];exact h.tf j
 .rw [k.cell (p:=⟨lb,i,none⟩) (by have:=c.hl;show lb < _;omega) (by show lb≠tb;omega)];exact h.lr i hi
 .rw [World.frozen?_setCell];exact h.lf j
theorem MS.open (c:MC g W0 lo G nb gy B tb lb ct cl cn cm) (h:MS g W0 lo G B tb lb ct cl V T L st sv) {V':World} (k:Kept (λd=>d < lo) V V') {st':List (Nat×Nat)} {sv':Value} (ho:V'.ownsRow lo 197 3 sv' st'.length (g.lY st')):MS g W0 lo G B tb lb ct cl (V'.setCell ⟨B,4,none⟩ sv') T L st' sv':=by
 obtain ⟨n1,n2,n3⟩:=c.ne;have z:=h.hv;have hb:=c.hB;have k2:Kept (λd=>d≠B) V' (V'.setCell ⟨B,4,none⟩ sv'):=Kept.setCell _ _ _ _ (by simp);have k3:Kept (λd=>d < lo∧d≠B) V (V'.setCell ⟨B,4,none⟩ sv'):=(k.mono (λ_ _ x=>x.1)).trans (k2.mono (λ_ _ x=>x.2));have b1:=h.bx.kept k hb.2;refine ⟨(h.be.trans (k.below (λd hd=>by omega) (by have:=h.be.size;omega))).setCell (by show _<=B;omega) _,?_,λi hi=>?_,λj=>?_,λi hi=>?_,λj=>?_,aj ho k2 (λb e=>by have:=az ho b e;omega),by have:=k3.size;omega⟩
 .exact b1.put 4 sv' (by simp)
 .rw [k3.cell (p:=⟨tb,i,none⟩) (by have:=c.ht;show tb < _;omega) (by have:=c.ht;show tb < lo∧tb≠B;omega)];exact h.tr i hi
 .rw [k3.frozen (p:=⟨tb,j,none⟩) (by have:=c.ht;show tb < _;omega) (by have:=c.ht;show tb < lo∧tb≠B;omega)];exact h.tf j
 .rw [k3.cell (p:=⟨lb,i,none⟩) (by have:=c.hl;show lb < _;omega) (by have:=c.hl;show lb < lo∧lb≠B;omega)];exact h.lr i hi
 .rw [k3.frozen (p:=⟨lb,j,none⟩) (by have:=c.hl;show lb < _;omega) (by have:=c.hl;show lb < lo∧lb≠B;omega)];exact h.lf j
theorem MS.top (c:MC g W0 lo G nb gy B tb lb ct cl cn cm) {b cap:Nat} (h:MS g W0 lo G B tb lb ct cl V T L st (.slice (some ⟨b,0,none⟩) st.length cap)) {V':World} (k:Kept (λd=>d≠b) V V') {st':List (Nat×Nat)} (e:st'.length=st.length) (ho:V'.ownsRow lo 197 3 (.slice (some ⟨b,0,none⟩) st'.length cap) st'.length (g.lY st')):MS g W0 lo G B tb lb ct cl V' T L st' (.slice (some ⟨b,0,none⟩) st'.length cap):=by
 have z:=h.hv;have hb:=c.hB;have hl:=ownsRow_le ho;refine ⟨h.be.trans (k.below (λd hd=>by omega) (by have:=h.be.size;omega)),by rw [e];exact h.bx.kept k (by omega),λi hi=>?_,λj=>?_,λi hi=>?_,λj=>?_,ho,by have:=k.size;omega⟩
 .rw [k.cell (p:=⟨tb,i,none⟩) (by have:=c.ht;show tb < _;omega) (by have:=c.ht;show tb≠b;omega)];exact h.tr i hi
 .rw [k.frozen (p:=⟨tb,j,none⟩) (by have:=c.ht;show tb < _;omega) (by have:=c.ht;show tb≠b;omega)];exact h.tf j
 .rw [k.cell (p:=⟨lb,i,none⟩) (by have:=c.hl;show lb < _;omega) (by have:=c.hl;show lb≠b;omega)];exact h.lr i hi
 .rw [k.frozen (p:=⟨lb,j,none⟩) (by have:=c.hl;show lb < _;omega) (by have:=c.hl;show lb≠b;omega)];exact h.lf j
end
end Go.Proofs.YthfnobboalhihaaGreat
