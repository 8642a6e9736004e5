import Derived.Test.YthfnobboalhihaaGreatQp
import Derived.Deep.RegionHeldLaw
set_option maxHeartbeats 40000000
set_option maxRecDepth 100000
namespace Go.Proofs.YthfnobboalhihaaGreat
open Go.RowKit Go.Joins
theorem zz140 {P:Prop} (h:P:=by
 refine ⟨by simp [Fo.vals,h3],λu hu=>?_,λW S=>h5 W S,h6⟩;simp only [Fo.vals,List.mem_cons] at hu;rcases hu with e | e
 .rw [e];rfl
 .exact h4 u e):P:=h
theorem Bt {P:Program} {e t ty:TypeId} {z:Value} {size bytes B n:Nat} {W:World} {v:Value} {xs:List Value} (hinfo:(P.info? e).map (λi=>(i.zero,i.size,i.bytes))=some (some z,size,bytes)) (ht:P.underlying t=some (.slice e)) (hown:W.ownsRow B e size v n xs) (a2:Option Addr) (c2:Nat):
  (Builtin.append_ #[t,t] ty #[v,.slice a2 0 c2]).run P W=.ok v W:=by
 obtain ⟨i0,hi,hz0,hz1,hz2⟩:=info_parts hinfo;exact zz64
theorem Nh {P:Program} {ops:Array Oper} {o:Oper} {a:Act} {K:Act->World->Prop} {Q:Exit->Act->World->Prop} {E:Prop} (hgd:o.guard=none) (s x:Operand) (t e:TypeId)
  (ho:o.op=.call {callee:=.builtin .append,args:=#[s,x],argTypes:=#[t,t]}) {z:Value} {size bytes:Nat} (hinfo:(P.info? e).map (λi=>(i.zero,i.size,i.bytes))=some (some z,size,bytes)) (ht:P.underlying t=some (.slice e)) (hzs:z.cells.size=size) (hsz:0 < size)
  (B:Nat) (w:World) (v:Value) (n:Nat) (xs:List Value) (a2:Option Addr) (m c:Nat) (F:Fo) (S:Nat->Prop) (hs:a.eval s=v) (hown:w.ownsRow B e size v n xs) (hx:a.eval x=.slice a2 m c) (hF:F.Sub w S a2 m c) (hl:F.vals.length=m * size) (h1:∀u∈F.vals,u.oneCell'=true) (hB:B<=w.heap.size) (h63:n+m<=maxLen) (hbytes:(n+m)* bytes<=140737488355328)
  (h:∀pa pc w',w'.ownsRow B e size (.slice pa (n+m) pc) (n+m) (xs++F.vals)->w.grownBy w' v.ownBlock->((Value.slice pa (n+m) pc).ownBlock=v.ownBlock∨(Value.slice pa (n+m) pc).ownBlock=some w.heap.size)->K (a.put o.dst (.slice pa (n+m) pc)) w'):
  if Region.wanted o (yielded ops a.tmps)=true then Oper.wp P o a w K Q else E:=by
 obtain ⟨i0,hi,hz0,hz1,hz2⟩:=info_parts hinfo
 by_cases hm:0 < m
 .have hlen:0 < F.len:=by
   rw [<- Fo.aB,hl];exact Nat.mul_pos hm hsz
  obtain ⟨b,oo,rfl,-,hc,-⟩:=hF.2.2 hlen;refine step_append_lies w hgd s x t ho B e i0 z size bytes ht hi hz0 hz1 hz2 hzs hsz v n xs hs hown ⟨b,oo,none⟩ m c F.vals hx hl (λj u hu=>by rw [addr_add];exact hc j u hu) h1 hm h63 hbytes hB w.heap.size rfl (λg cap w' h2 h3 h4 _=>h _ _ w' h2 h3 ?_);rcases h4 with h4 | h4
  .exact .inl h4.symm
  .exact .inr (congrArg some h4)
 .have hm0:m=0:=by omega
  subst hm0;have hv:F.vals=[]:=List.length_eq_zero_iff.1 (by rw [hl,Nat.zero_mul]);have hr:=Bt (ty:=o.type) hinfo ht hown a2 c;have hw:Region.wanted o (yielded ops a.tmps)=true:=by simp [Region.wanted,hgd]
  rw [if_pos hw];unfold Oper.wp execOp;simp only [ho,resolve,invoke,builtin,Sem.run_bind,Sem.run_pure,Result.andThen_ok,List.map_toArray,List.map_cons,List.map_nil,hs,hx,hr];obtain ⟨pa,pc,rfl⟩:∃pa pc,v=.slice pa (n+0) pc:=by
   rcases hown.2 with ⟨rfl,h0⟩ | ⟨g,cap,cur,rfl,-⟩
   .exact ⟨none,0,by rw [h0]⟩
   .exact ⟨_,_,rfl⟩
  exact h pa pc w (by rw [hv,List.append_nil];exact hown) (World.grownBy.refl _ _) (.inl rfl)
theorem vB:∀(n:Nat) (F:Fo),Fit E F (rep (E 0) n)->F.vals.length=n∧(∀u∈F.vals,u.oneCell'=true)∧(∀W S,F.av W S)∧F.ah=[]
 | 0,F,h=>by rw [ai h];exact ⟨rfl,by simp [Fo.vals],λ_ _=>trivial,rfl⟩
 | n+1,F,h=>by
  obtain ⟨x,r,rfl,-,hr⟩:=jy h;obtain ⟨h3,h4,h5,h6⟩:=vB n r hr;exact zz140
theorem nR:∀(n:Nat) (F:Fo),Fit E F (rep (E 1) n)->F.vals.length=n∧(∀u∈F.vals,u.oneCell'=true)∧(∀W S,F.av W S)∧F.ah=[]
 | 0,F,h=>by rw [ai h];exact ⟨rfl,by simp [Fo.vals],λ_ _=>trivial,rfl⟩
 | n+1,F,h=>by
  obtain ⟨x,r,rfl,-,hr⟩:=aU h;obtain ⟨h3,h4,h5,h6⟩:=nR n r hr;exact zz140
theorem Sc {w:World} {b:Nat} {e:TypeId} {sz:Nat} (h:w.heap[b]? =some (.cells #[] e)):w.ownsRow 0 e sz (.slice (some ⟨b,0,none⟩) 0 0) 0 []:=
 ⟨by simp,.inr ⟨b,0,#[],rfl,Nat.zero_le _,h,Nat.le_refl _,Nat.zero_le _,by simp,by simp⟩⟩
theorem JG {W:World} {o:Obj} {b:Nat} (h:W.heap.size=b):(W.alloc o).heap[b]? =some o:=by rw [<- h];exact bH W o
theorem Vl {W:World} {o o':Obj} {b:Nat} (h:W.heap[b]? =some o):(W.alloc o').heap[b]? =some o:=by
 have hb:b < W.heap.size:=(Array.getElem?_eq_some_iff.1 h).1;exact ((Kept.alloc (λ_=>True) W o').block b hb trivial).trans h
theorem Vk {W:World} {b:Nat} {x:Option Obj} (h:W.heap[b]? =x):W.drew.heap[b]? =x:=h
theorem Bx.of_heap {W:World} {b:Nat} {cs:Array Value} {t:TypeId} (h:W.heap[b]? =some (.cells cs t)):Bx W b cs.toList:=by
 have hb:b < W.heap.size:=(Array.getElem?_eq_some_iff.1 h).1;refine ⟨hb,λi v hv=>?_,λj=>?_⟩
 .rw [cell_of_row W b i cs t _ h];simpa using hv
 .simp [World.frozen?,h]
theorem rZ {P:Program} {ops:Array Oper} {o:Oper} {a:Act} {K:Act->World->Prop} {Q:Exit->Act->World->Prop} {E:Prop} (hgd:o.guard=none) (s x:Operand) (t e:TypeId)
  (ho:o.op=.call {callee:=.builtin .append,args:=#[s,x],argTypes:=#[t,t]}) {z:Value} {size bytes:Nat} (hinfo:(P.info? e).map (λi=>(i.zero,i.size,i.bytes))=some (some z,size,bytes)) (ht:P.underlying t=some (.slice e)) (hzs:z.cells.size=size) (hsz:0 < size)
  (w:World) (b:Nat) (a2:Option Addr) (m c:Nat) (F:Fo) (S:Nat->Prop) (hs:a.eval s=.slice (some ⟨b,0,none⟩) 0 0) (hb:w.heap[b]? =some (.cells #[] e)) (hx:a.eval x=.slice a2 m c) (hF:F.Sub w S a2 m c) (hl:F.vals.length=m * size) (h1:∀u∈F.vals,u.oneCell'=true) (h63:m<=maxLen) (hbytes:m * bytes<=140737488355328)
  (h:∀pa pc w',w'.ownsRow 0 e size (.slice pa m pc) m F.vals->w.grownBy w' (some b)->((Value.slice pa m pc).ownBlock=some b∨(Value.slice pa m pc).ownBlock=some w.heap.size)->K (a.put o.dst (.slice pa m pc)) w'):
  if Region.wanted o (yielded ops a.tmps)=true then Oper.wp P o a w K Q else E:=by
 refine Nh hgd s x t e ho hinfo ht hzs hsz 0 w _ 0 [] a2 m c F S hs (Sc hb) hx hF hl h1 (Nat.zero_le _) (by rw [Nat.zero_add];exact h63) (by rw [Nat.zero_add];exact hbytes) (λpa pc w' h2 h3 h4=>?_);rw [Nat.zero_add,List.nil_append] at h2;rw [Nat.zero_add] at h4 ⊢;exact h pa pc w' h2 h3 h4
theorem Kept.Tq {n b i:Nat} {v:Value} {A B:World} (k:Kept (λc=>c < n) A B) (h:n<=b):Kept (λc=>c < n) A (B.setCell ⟨b,i,none⟩ v):=k.set (by show ¬b < n;omega)
structure OP (A V:World) (s qb ln nn:Nat) (k nm mn:Value) (lk nk:Fo) (pa pb:Option Addr) (pc pd:Nat):Prop where
 b2:Bx V qb [k,nm,mn,.slice pa ln pc,.slice pb nn pd,.slice none 0 0,.slice none 0 0]
 hp:Hp (λc=>c < s+2∨c=qb) [.row 111 1 (.slice pa ln pc) ln lk,.row 9 1 (.slice pb nn pd) nn nk] V
 kp:Kept (λc=>c < s+2) A V
 lo:s+2<=qb
theorem OQ {A wa w1 wb w2 V:World} {s Du yh qb ln nn:Nat} {k nm mn:Value} {lk nk:Fo} {pa pb:Option Addr} {pc pd:Nat} (hz:A.heap.size=s+2) (hl:Fit E lk (rep (E 0) ln)) (hn:Fit E nk (rep (E 1) nn))
  (O1:w1.ownsRow 0 111 1 (.slice pa ln pc) ln lk.vals) (G1:wa.grownBy w1 (some Du)) (T1:(Value.slice pa ln pc).ownBlock=some Du∨(Value.slice pa ln pc).ownBlock=some wa.heap.size)
  (O2:w2.ownsRow 0 9 1 (.slice pb nn pd) nn nk.vals) (G2:wb.grownBy w2 (some yh)) (T2:(Value.slice pb nn pd).ownBlock=some yh∨(Value.slice pb nn pd).ownBlock=some wb.heap.size)
  (k0:Kept (λ_=>True) A wa) (k1:Kept (λ_=>True) w1 wb) (k2:Kept (λc=>c≠qb) w2 V) (h22:s+2<=Du∧Du < wa.heap.size) (h25:s+2<=yh∧yh < wb.heap.size∧yh≠Du∧(yh < wa.heap.size∨w1.heap.size<=yh))
  (hob:s+2<=qb∧qb≠Du∧qb≠yh∧(qb < wa.heap.size∨w1.heap.size<=qb)∧(qb < wb.heap.size∨w2.heap.size<=qb)) (hb:V.heap[qb]? =some (.cells #[k,nm,mn,.slice pa ln pc,.slice pb nn pd,.slice none 0 0,.slice none 0 0] 35)):
  OP A V s qb ln nn k nm mn lk nk pa pb pc pd:=by
 obtain ⟨-,-,p1,p2⟩:=vB ln lk hl;obtain ⟨-,-,q1,q2⟩:=nR nn nk hn;have g1:=G1.size;have g2:=G2.size;have z1:=k1.size;have z0:=k0.size;have OT:∀c,(Value.slice pa ln pc).ownBlock=some c->(c=Du∨c=wa.heap.size)∧c < w1.heap.size:=λc hc=>by
  refine ⟨?_,qF O1 hc⟩;rcases T1 with e | e <;> rw [hc] at e <;> injection e with e
  .exact .inl e
  .exact .inr e
 have OU:∀c,(Value.slice pb nn pd).ownBlock=some c->(c=yh∨c=wb.heap.size)∧c < w2.heap.size:=λc hc=>by
  refine ⟨?_,qF O2 hc⟩;rcases T2 with e | e <;> rw [hc] at e <;> injection e with e
  .exact .inl e
  .exact .inr e
 have kg1:Kept (λc=>c≠Du) wa w1:=Kept.grown G1 (λc e h=>h (Option.some.inj e).symm);have Z4:Kept (λc=>c≠yh) wb w2:=Kept.grown G2 (λc e h=>h (Option.some.inj e).symm);have Z5:Kept (λc=>c < s+2) A V:=(((k0.mono (λ_ _ _=>trivial)).trans (kg1.mono (λc _ hc=>by show c≠Du;omega))).trans (k1.mono (λ_ _ _=>trivial))).trans ((Z4.mono (λc _ hc=>by show c≠yh;omega)).trans (k2.mono (λc _ hc=>by show c≠qb;omega)));have O1V:V.ownsRow 0 111 1 (.slice pa ln pc) ln lk.vals:=by
  refine aj (S:=λc=>c≠yh∧c≠qb) O1 ((k1.mono (λ_ _ _=>trivial)).trans ((Z4.mono (λc _ hc=>hc.1)).trans (k2.mono (λc _ hc=>hc.2)))) (λc hc=>?_)
  have:=OT c hc
  constructor <;> omega
 have O2V:V.ownsRow 0 9 1 (.slice pb nn pd) nn nk.vals:=by
  refine aj (S:=λc=>c≠qb) O2 k2 (λc hc=>?_)
  have:=OU c hc
  show c≠qb;omega
 refine ⟨Bx.of_heap hb,⟨λi hi=>?_,?_,λc hc=>?_⟩,Z5,hob.1⟩
 .simp only [List.mem_cons,List.not_mem_nil,or_false] at hi
  rcases hi with rfl | rfl
  .exact ⟨O1V,p1 _ _,by rw [p2];exact λc hc=>absurd hc List.not_mem_nil⟩
  .exact ⟨O2V,q1 _ _,by rw [q2];exact λc hc=>absurd hc List.not_mem_nil⟩
 .simp only [rD,List.flatMap_cons,List.flatMap_nil,Item.bl,p2,q2,List.append_nil]
  refine List.nodup_append.2 ⟨?_,?_,λa ha c hc e=>?_⟩
  .unfold ob;cases (Value.slice pa ln pc).ownBlock <;> simp
  .unfold ob;cases (Value.slice pb nn pd).ownBlock <;> simp
  .have h1:=OT a (jw.1 ha)
   have h2:=OU c (jw.1 hc);omega
 .simp only [rD,List.flatMap_cons,List.flatMap_nil,Item.bl,p2,q2,List.append_nil] at hc
  rcases List.mem_append.1 hc with hc | hc
  .have h1:=OT c (jw.1 hc)
   show ¬(c < s+2∨c=qb);omega
  .have h2:=OU c (jw.1 hc)
   show ¬(c < s+2∨c=qb);omega
theorem mD {S:Nat->Prop} {W V:World} (h:Kept S W V:=by (repeat first | with_reducible assumption | (with_reducible refine Kept.dr ?_) | (with_reducible refine Kept.al ?_) | with_reducible exact Kept.refl _ _);(first | done | fail)):Kept S W V:=h
theorem kL {S:Nat->Prop} {W V:World} (h:Kept S W V:=by (repeat first | with_reducible assumption | (with_reducible refine Kept.dr ?_) | (with_reducible refine Kept.al ?_) | (with_reducible refine Kept.Tq ?_ vG.out.lo) | with_reducible exact Kept.refl _ _);(first | done | fail)):Kept S W V:=h
theorem tu {W:World} {b:Nat} {x:Option Obj} (h:W.heap[b]? =x:=by (repeat first | with_reducible assumption | (with_reducible refine JG ?_;(simp;(first | done | fail))) | (with_reducible refine Vk ?_) | (with_reducible refine Vl ?_));(first | done | fail)):W.heap[b]? =x:=h
structure sF (W wr:World) (s qb:Nat) (cv L:List Value) (e sz i:Nat) (v:Value) (D:Fo) (Rs:List Item):Prop where
 b0:Bx wr s cv
 b1:Bx wr (s+1) [.int .i64 0,.string ⟨#[]⟩,.bool false,.slice none 0 0,.slice none 0 0,.slice none 0 0,.slice none 0 0]
 b2:Bx wr qb L
 hp:Hp (λc=>c < s+2∨c=qb) (.row e sz v i D ::Rs) wr
 be:Below s W wr
 lo:s+2<=qb
 ws:W.heap.size=s
theorem sF.step {W wr w5 w7:World} {s qb e sz i j:Nat} {cv L:List Value} {v v':Value} {D X:Fo} {Rs:List Item} (h:sF W wr s qb cv L e sz i v D Rs) (hown:Own wr.heap.size w5 X) (k5:Kept (λ_=>True) wr w5)
  (hO:w7.ownsRow 0 e sz v' (i+1) (D.vals++X.vals)) (hG:w5.grownBy w7 v.ownBlock) (hat:v'.ownBlock=v.ownBlock∨v'.ownBlock=some w5.heap.size) (hj:j < L.length):
  sF W (w7.setCell ⟨qb,j,none⟩ v') s qb cv (L.set j v') e sz (i+1) v' (D.app X) Rs:=by
 have hlt:=h.b2.lt;have hlo:=h.lo;have hz5:=k5.size;have hpA:=(h.hp.keep k5).SG hown (λc hc=>by show ¬(c < s+2∨c=qb);omega) (λc hc=>h.hp.lt hc);have hpB:=hpA.perm (List.Perm.swap _ _ _);have hpC:=(hpB.grow (v':=v') (m:=i+1) (λc hc=>by have hc':c < s+2∨c=qb:=hc;omega) hG hO hat).1;have hne:∀c,v.ownBlock=some c->¬(c < s+2∨c=qb):=λc hc=>h.hp.fr c (List.mem_append.2 (.inl (List.mem_append.2 (.inl (jw.2 hc)))))
 have k7:Kept (λc=>c < s+2∨c=qb) wr w7:=(k5.mono (λ_ _ _=>trivial)).trans (Kept.grown hG (λc e h=>hne c e h));have ks:Kept (λc=>c≠qb) w7 (w7.setCell ⟨qb,j,none⟩ v'):=Kept.setCell _ _ _ _ (by simp);refine ⟨(h.b0.kept k7 (.inl (by omega))).kept ks (by show s≠qb;omega),(h.b1.kept k7 (.inl (by omega))).kept ks (by show s+1≠qb;omega),(h.b2.kept k7 (.inr rfl)).put j _ hj,hpC.put _ _ (.inr rfl),?_,hlo,h.ws⟩;exact Below.kept (Below.kept h.be k7 (λc hc=>.inl (by omega)) (Nat.le_of_eq h.ws.symm)) ks (λc hc=>by show c≠qb;omega) (Nat.le_of_eq h.ws.symm)
noncomputable def qI {P:Fo->Prop} (h:Hid (∃G:Fo,P G)):Fo:=Classical.choose h.out
theorem gU {P:Fo->Prop} (h:Hid (∃G:Fo,P G)):P (qI h):=Classical.choose_spec h.out
theorem oh {w:World} {lo n:Nat} {pa:Option Addr} {pc:Nat} {ck:Fo} (hf:Fit E ck (rep (E 1) n)) (hO:w.ownsRow 0 9 1 (.slice pa n pc) n ck.vals) (hl:∀c,(Value.slice pa n pc).ownBlock=some c->lo<=c):Own lo w (.s pa n pc ck .nil):=by
 obtain ⟨-,-,q1,q2⟩:=nR n ck hf;have hp:Hp (λc=>c < lo) [.row 9 1 (.slice pa n pc) n ck] w:=by
  refine ⟨λi hi=>?_,?_,λc hc=>?_⟩
  .rw [List.mem_singleton.1 hi]
   exact ⟨hO,q1 _ _,by rw [q2];exact λc hc=>absurd hc List.not_mem_nil⟩
  .simp only [rD,List.flatMap_cons,List.flatMap_nil,Item.bl,q2,List.append_nil]
   unfold ob;cases (Value.slice pa n pc).ownBlock <;> simp
  .simp only [rD,List.flatMap_cons,List.flatMap_nil,Item.bl,q2,List.append_nil] at hc
   have:=hl c (jw.1 hc)
   show ¬c < lo;omega
 obtain ⟨a,cap,e,h2⟩:=hp.shut;simp only [Value.slice.injEq,true_and] at e;obtain ⟨rfl,rfl⟩:=e;exact h2.own (λc hc=>hc)
theorem OP.start {W A V:World} {s qb ln nn:Nat} {k nm mn:Value} {lk nk:Fo} {pa pb:Option Addr} {pc pd:Nat} {cv:List Value} (h:OP A V s qb ln nn k nm mn lk nk pa pb pc pd) (b0:Bx A s cv) (b1:Bx A (s+1) [.int .i64 0,.string ⟨#[]⟩,.bool false,.slice none 0 0,.slice none 0 0,.slice none 0 0,.slice none 0 0]) (be:Below s W A) (hws:W.heap.size=s):
  sF W V s qb cv [k,nm,mn,.slice pa ln pc,.slice pb nn pd,.slice none 0 0,.slice none 0 0] 35 7 0 (.slice none 0 0) .nil [.row 71 9 (.slice none 0 0) 0 .nil,.fo (.s pb nn pd nk .nil),.fo (.s pa ln pc lk .nil)]:=by
 refine ⟨b0.kept h.kp (by show s < s+2;omega),b1.kept h.kp (by show s+1 < s+2;omega),h.b2,?_,Below.kept be h.kp (λc hc=>by show c < s+2;omega) (Nat.le_of_eq hws.symm),h.lo,hws⟩;obtain ⟨a1,c1,e1,h1⟩:=h.hp.shut;simp only [Value.slice.injEq,true_and] at e1;obtain ⟨rfl,rfl⟩:=e1;obtain ⟨a2,c2,e2,h2⟩:=(h1.perm (List.Perm.swap _ _ _)).shut;simp only [Value.slice.injEq,true_and] at e2;obtain ⟨rfl,rfl⟩:=e2;exact (h2.empty 71 9).empty 35 7
theorem sF.turn {W wr:World} {s qb n c e2 sz2:Nat} {cv L:List Value} {a:Option Addr} {D:Fo} {v2:Value} {R:List Item} (h:sF W wr s qb cv L 35 7 n (.slice a n c) D (.row e2 sz2 v2 0 .nil ::R)):
  sF W wr s qb cv L e2 sz2 0 v2 .nil (.fo (.s a n c D .nil)::R):=by
 obtain ⟨a1,c1,e1,h1⟩:=h.hp.shut;simp only [Value.slice.injEq,true_and] at e1;obtain ⟨rfl,rfl⟩:=e1;exact ⟨h.b0,h.b1,h.b2,h1.perm (List.Perm.swap _ _ _),h.be,h.lo,h.ws⟩
theorem sF.fin {W wr V:World} {s qb ln nn kn an lc nc kc ac:Nat} {cv L:List Value} {la na ka aa:Option Addr} {lk nk K D:Fo} {k nm mn:Value} (h:sF W wr s qb cv L 71 9 an (.slice aa an ac) D [.fo (.s ka kn kc K .nil),.fo (.s na nn nc nk .nil),.fo (.s la ln lc lk .nil)]) (kV:Kept (λc=>c≠s+1) wr V):
  Below s W V∧Own s V (.v k (.v nm (.v mn (.s la ln lc lk (.s na nn nc nk (.s ka kn kc K (.s aa an ac D .nil))))))):=by
 refine ⟨Below.kept h.be kV (λc hc=>by show c≠s+1;omega) (Nat.le_of_eq h.ws.symm),?_⟩;have h0:=h.hp.kept kV (λc hc e=>h.hp.fr c hc (.inl (by omega)));obtain ⟨a1,c1,e1,h1⟩:=h0.shut;simp only [Value.slice.injEq,true_and] at e1;obtain ⟨rfl,rfl⟩:=e1;have h2:=h1.perm (List.reverse_perm _).symm;simp only [List.reverse_cons,List.reverse_nil,List.nil_append,List.cons_append] at h2;have h3:=(h2.app.app).app;simp only [Fo.app] at h3;exact (((h3.v mn).v nm).v k).own (λc hc=>.inl (by omega))
theorem zz0 {P:Prop} (h:P:=by
 go_simp;refine hK.out _ _ ?_ (λhHeld=>?_)
 next=>
  exact zz32
 clear hK K;refine rk 25 (λK hK=>?_)
 (refine mG (by rfl) _ _ 33 71 (by rfl) Tryz.info71 Tryz.underlying33 rfl (by decide) 0 _ (.slice ha j hc') j D2.vals [.string au,.slice na' cn bI,.int .i64 xk,.string dJ,.bool bP,.slice jN bQ jR,.slice jO bR jS,.slice jP bS jT,.slice jQ bT jU] _ 1 (by rfl) (HOW.out _ mD) (by rfl) (bH _ _) (Nat.zero_le _) rfl (by simp [Value.oneCell']) xC.out.1 xC.out.2 ?_;intro g7 cp w7 gX fB jm;have K7:=sG.out _ _ mD fB;have SA:=AZ.out _ K7;have b7:=eO.out.kept K7 (.inr rfl);have p7:=b7.ae 6 _ rfl;have l7:=b7.live 6;clear b7)
 refine hK.out _ _ ?_ (λhHeld=>?_)
 next=>
  exact zz165
 clear hK K;refine tk 26 ?_;simp only [Act.put];refine rk 27 (λK hK=>?_);go_simp;refine hK.out _ _ ?_ (λhHeld=>?_)
 next=>
  (try dsimp only)
  (first | with_reducible exact k0 | exact kr.out _ kL)
 clear hK K;refine wpAnyH_done (by kernel_rfl) ?_ _;have HF:Hid (sF W (w7.setCell ⟨qb,6,none⟩ (.slice (some ⟨g7,0,none⟩) (j+1) cp)) s qb [.int .i64 k,.string nm,.bool mn,.slice la ln lc,.slice na nn nc,.slice ka i kc,.slice (some ⟨b,o,none⟩) an ac] [.int .i64 k,.string nm,.bool mn,.slice pa ln pc,.slice pb nn pd,.slice ga i gc,.slice (some ⟨g7,0,none⟩) (j+1) cp] 71 9 (j+1) (.slice (some ⟨g7,0,none⟩) (j+1) cp) (D2.app (.v (.string au) (.s na' cn bI ck (qI h5)))) [.fo (.s ga i gc D .nil),.fo (.s pb nn pd nk .nil),.fo (.s pa ln pc lk .nil)]):=(by
  have hG:=gU h5;have hon:Own wr.heap.size w3 (.s na' cn bI ck .nil):=oh Pm.out hO3 (λc hc=>by rcases IY with e | e <;> rw [hc] at e <;> have e:=Option.some.inj e <;> first | omega | (simp at e;omega));have DF:=((hon.app hG.2.2.2 K3.size hG.2.2.1).v (.string au)).kept (Kept.alloc (λ_=>True) w5 (.cells #[.string au,.slice na' cn bI,.int .i64 xk,.string dJ,.bool bP,.slice jN bQ jR,.slice jO bR jS,.slice jP bS jT,.slice jQ bT jU] 71)) (λ_ _ _=>trivial);exact vG.out.step (j:=6) (X:=.v (.string au) (.s na' cn bI ck (qI h5))) DF (K5.trans (Kept.alloc _ _ _)) (by simp only [Fo.vals,hG.1];exact gX) fB (jm.elim (λe=>.inl e.symm) (λe=>.inr (congrArg some e))) (by simp))
 have mJ:Hid ((∃Kd:Fo,ak=Kd.app q∧(D2.app (.v (.string au) (.s na' cn bI ck (qI h5)))).aG Kd)∧q.size<=m∧q.wt<=1048576):=(by
  obtain ⟨⟨Kd,e1,e2⟩,e3,e4⟩:=xD.out;exact ⟨⟨_,e1,e2 _ _ _ (gU h5).2.1⟩,e3,e4⟩)
 clear gX fB jm K5 K3 vG HOW DD sG eO pg xD;go_wp2_with fail;go_roundw
 case rel=>exact ⟨j+1,q,_,_,_,by go_num,by omega,HF,HR1,mJ⟩
 case measure=>simp [intOf];omega):P:=h
theorem zz6 {P:Prop} (h:P:=by
 refine hK.out _ _ ?_ (λhHeld=>?_)
 next=>
  exact zz32
 clear hK K;refine rk 22 (λK hK=>?_)
 (refine aX (by rfl) 16 #[.agg #[.int .i64 xk,.string dJ,.bool bP,.slice dO bQ dP,.slice dQ bR dR,.slice dU bS dV,.slice dW bT dX]] (by simp [go_sem]) _ (pg.out _ mD) ?_;rintro v5 w5 ⟨jN,jO,jP,jQ,jR,jS,jT,jU,rfl,h5⟩;have K5:Kept (λ_=>True) wr w5:=K3.trans (by obtain ⟨G,-,-,-,hk⟩:=h5.out;exact kt hk);have Wv:=AY.out _ K5;have b5:=eO.out.kept K5 trivial;have p65:=b5.ae 6 _ rfl;have p66:=(b5.kept (Kept.alloc (λ_=>True) _ (.cells #[.string au,.slice na' cn bI,.int .i64 xk,.string dJ,.bool bP,.slice jN bQ jR,.slice jO bR jS,.slice jP bS jT,.slice jQ bT jU] 71)) trivial).ae 6 _ rfl;clear b5)
 refine hK.out _ _ ?_ (λhHeld=>?_)
 next=>
  exact zz165
 clear hK K;refine tk 23 ?_;simp only [Act.put];refine rk 24 (λK hK=>?_);exact zz0):P:=h
theorem zz32 {P:Prop} (h:P:=by
 (try dsimp only)
 (first | with_reducible exact k0 | exact kr.out _ kL)):P:=h
theorem zz44 {P:Prop} (h:P:=by
 go_simp;refine hK.out _ _ ?_ (λhHeld=>?_)
 next=>
  exact zz32
 clear hK K;refine rk 15 (λK hK=>?_)
 (refine rZ (by rfl) (.tmp 57) (.tmp 63) 25 9 rfl Tryz.info9 Tryz.underlying25 rfl (by decide) _ _ ca cn cc ck (λc=>c < n0) rfl ?hh rfl (Ai.out _ mD) ym.out.1 ym.out.2.1 ym.out.2.2.1 ym.out.2.2.2 ?_;(case hh=>exact tu);intro na' bI w3 hO3 hG3 IY;have K3:=Wu.out _ _ mD hG3;have kl3:=AY.out _ K3;have b3:=eO.out.kept K3 trivial;have p63:=b3.ae 6 _ rfl;clear b3)
 exact zz6):P:=h
theorem zz165 {P:Prop} (h:P:=by
 (try dsimp only)
 (first | with_reducible exact k0 | exact kr.out _ kL)):P:=h
theorem JJ:∀m,yg Tryz.prog E 16 (E 3) m:=by
 intro m
 induction m with
 | zero=>
  intro F n0 W hm hf hn hwt hs;exact absurd (Fit.len hf) (by have:=F.fJ;show ¬F.len=7;omega)
 | succ m ih=>
 intro F n0 W hm hf hn hwt hss;obtain ⟨k,nm,mn,la,ln,lc,lk,na,nn,nc,nk,ka,kn,kc,kk,aa,an,ac,ak,rfl,-,-,h3,h4,h5,h6⟩:=ag hf;obtain ⟨TY,TZ,hs5,hs6,-⟩:=hss;have hs3:lk.Sub W (λc=>c < n0) la ln lc:=TY;have hs4:nk.Sub W (λc=>c < n0) na nn nc:=TZ;clear TY TZ;simp only [Fo.wt,bU] at hwt;simp only [Fo.size] at hm;simp only [Fo.vals];have hbd:ln<=1048576∧nn<=1048576:=by omega
 have hmx:kn<=9223372036854775807:=by omega
 have hmy:an<=9223372036854775807:=by omega
 obtain ⟨s,hs⟩:∃s,W.heap.size=s:=⟨_,rfl⟩
 obtain ⟨A1,hA1⟩:∃A,W.alloc (.cells #[.int .i64 k,.string nm,.bool mn,.slice la ln lc,.slice na nn nc,.slice ka kn kc,.slice aa an ac] 35)=A:=⟨_,rfl⟩
 obtain ⟨A2,hA2⟩:∃A,A1.alloc (.cells #[.int .i64 0,.string {data:=#[]},.bool false,.slice none 0 0,.slice none 0 0,.slice none 0 0,.slice none 0 0] 35)=A:=⟨_,rfl⟩
 have z1:A1.heap.size=s+1:=by rw [<- hA1,<- hs];simp
 have z2:A2.heap.size=s+2:=by rw [<- hA2,World.size_alloc,z1]
 have k12:Kept (λ_=>True) A1 A2:=by rw [<- hA2];exact Kept.alloc _ _ _
 have x2:Bx A2 s [.int .i64 k,.string nm,.bool mn,.slice la ln lc,.slice na nn nc,.slice ka kn kc,.slice aa an ac]:=by
  have:Bx A1 s [.int .i64 k,.string nm,.bool mn,.slice la ln lc,.slice na nn nc,.slice ka kn kc,.slice aa an ac]:=by rw [<- hA1,<- hs];exact Bx.new _ _ _
  exact this.kept k12 trivial
 have y2:Bx A2 (s+1) [.int .i64 0,.string ⟨#[]⟩,.bool false,.slice none 0 0,.slice none 0 0,.slice none 0 0,.slice none 0 0]:=by rw [<- hA2,<- z1];exact Bx.new _ _ _
 have kW:Kept (λ_=>True) W A2:=by rw [<- hA2,<- hA1];exact (Kept.alloc _ _ _).trans (Kept.alloc _ _ _)
 have bW:Below s W A2:=Below.kept (Below.refl _ _) kW (λ_ _=>trivial) (Nat.le_of_eq hs.symm);have HS:Hid (∀V,Kept (λc=>c < s+2) A2 V->V.cell? ⟨s,0,none⟩=some (.int .i64 k)∧V.cell? ⟨s,1,none⟩=some (.string nm)∧V.cell? ⟨s,2,none⟩=some (.bool mn)∧V.cell? ⟨s,3,none⟩=some (.slice la ln lc)∧V.cell? ⟨s,4,none⟩=some (.slice na nn nc)):=λV kV=>by
  have h:=x2.kept kV (by show s < s+2;omega);exact ⟨h.ae 0 _ rfl,h.ae 1 _ rfl,h.ae 2 _ rfl,h.ae 3 _ rfl,h.ae 4 _ rfl⟩
 have HF3:Hid (∀V,Kept (λc=>c < s+2) A2 V->lk.Sub V (λc=>c < n0) la ln lc):=λV kV=>(hs3.kept kW (λc hc=>⟨trivial,by omega⟩)).kept kV (λc hc=>⟨by show c < s+2;omega,by omega⟩)
 have HF4:Hid (∀V,Kept (λc=>c < s+2) A2 V->nk.Sub V (λc=>c < n0) na nn nc):=λV kV=>(hs4.kept kW (λc hc=>⟨trivial,by omega⟩)).kept kV (λc hc=>⟨by show c < s+2;omega,by omega⟩)
 have HB3:Hid (ln<=maxLen∧ln * 4<=140737488355328∧nn<=maxLen∧nn * 16<=140737488355328):=by unfold Hid maxLen;omega
 have NU:Hid (lk.vals.length=ln * 1∧∀u∈lk.vals,u.oneCell'=true):=⟨by rw [(vB ln lk h3).1];omega,(vB ln lk h3).2.1⟩
 have Ew:Hid (nk.vals.length=nn * 1∧∀u∈nk.vals,u.oneCell'=true):=⟨by rw [(nR nn nk h4).1];omega,(nR nn nk h4).2.1⟩
 have k0:=HS.out A2.drew (Kept.drew _ _);have qY:=hide hs;have HZ2:=hide z2;have HA1:=hide hA1;have HA2:=hide hA2;have HH3:=hide h3;have HH4:=hide h4;have xq:=hide x2;have Ld:=hide y2;have mE:=hide bW;have xW:=hide ih;have Ri:=hide hn;have K8:=hide (Rd.start h5 hs5);have Ad:=hide (Rd.start h6 hs6);have BA:Hid (kk.size<=m∧ak.size<=m∧kn+kk.wt<=1048576∧an+ak.wt<=1048576):=⟨by omega,by omega,by omega,by omega⟩
 have Pk:Hid (∀(w w':World) (b:Nat),s+2<=b->Kept (λc=>c < s+2) A2 w->w.grownBy w' (some b)->Kept (λc=>c < s+2) A2 w'):=λw w' b hb kw hG=>kw.trans (Kept.grown hG (λc e h=>by have:=Option.some.inj e;omega))
 clear hs hA1 hA2 z1 k12 x2 y2 z2 h3 h4 h5 h6 hs3 hs4 hs5 hs6 kW bW hbd ih hn hf hm hwt;go_enter Tryz.func16,Tryz.ntmps16
 go_upto_region 1 with fail
 rw [qY.out,HA1.out,HA2.out];go_cut [3] (λs3 wx=>∃(qb:Nat) (pa pb:Option Addr) (pc pd:Nat),s3=.pointer (some ⟨qb,0,none⟩)∧Hid (OP A2 wx s qb ln nn (.int .i64 k) (.string nm) (.bool mn) lk nk pa pb pc pd))
 case first=>
  go_region_held_law (λV=>V.cell? ⟨s,0,none⟩=some (.int .i64 k)∧V.cell? ⟨s,1,none⟩=some (.string nm)∧V.cell? ⟨s,2,none⟩=some (.bool mn)∧V.cell? ⟨s,3,none⟩=some (.slice la ln lc)∧V.cell? ⟨s,4,none⟩=some (.slice na nn nc))
   (first
    | with_reducible exact k0
    | exact HS.out _ (by (repeat first | with_reducible assumption | (with_reducible refine Kept.dr ?_) | (with_reducible refine Kept.al ?_) | (with_reducible refine Kept.Tq ?_ (by have:=HZ2.out;first | omega | (have:=LB.size;omega) | (have:=BH.size;have:=LB.size;omega))) | with_reducible exact Kept.refl _ _);(first | done | fail)))
   (first
    | (refine rZ (by rfl) (.tmp 13) (.tmp 16) 22 111 rfl Tryz.info111 Tryz.underlying22 rfl (by decide) _ _ la ln lc lk (λc=>c < n0) rfl ?hh rfl (HF3.out _ mD) NU.out.1 NU.out.2 HB3.out.1 HB3.out.2.1 ?_;(case hh=>exact tu);intro pa pc w1 hO1 hG1 hT1;have gz1:=hG1.size;(try simp at gz1);have LB:=Pk.out _ _ _ (by have:=HZ2.out;first | omega | (simp;omega)) mD hG1;(try (have q1:w1.heap[A2.heap.size]? =some (.cells #[.int .i64 0,.string {data:=#[]},.bool false,.slice none 0 0,.slice none 0 0,.slice none 0 0,.slice none 0 0] 35):=(hG1.block _ (by first | omega | (simp;omega) | (simp;(first | done | fail))) (by intro e;have e2:=Option.some.inj e;first | omega | (simp at e2;omega) | (simp at e2;(first | done | fail)))).trans tu;have ic:=Bx.of_heap q1;have T9:=ic.ae 0 _ rfl;have Ua:=ic.live 0;have Ub:=ic.ae 1 _ rfl;have Uc:=ic.live 1;have Ud:=ic.ae 2 _ rfl;have Ue:=ic.live 2;have Uf:=ic.ae 3 _ rfl;have Ug:=ic.live 3;have Uh:=ic.ae 4 _ rfl;have Ui:=ic.live 4;have Uj:=ic.ae 5 _ rfl;have Uk:=ic.live 5;have Ul:=ic.ae 6 _ rfl;have Um:=ic.live 6));(try (have q1:w1.heap[A2.heap.size+1]? =some (.cells #[.int .i64 0,.string {data:=#[]},.bool false,.slice none 0 0,.slice none 0 0,.slice none 0 0,.slice none 0 0] 35):=(hG1.block _ (by first | omega | (simp;omega) | (simp;(first | done | fail))) (by intro e;have e2:=Option.some.inj e;first | omega | (simp at e2;omega) | (simp at e2;(first | done | fail)))).trans tu;have ic:=Bx.of_heap q1;have T9:=ic.ae 0 _ rfl;have Ua:=ic.live 0;have Ub:=ic.ae 1 _ rfl;have Uc:=ic.live 1;have Ud:=ic.ae 2 _ rfl;have Ue:=ic.live 2;have Uf:=ic.ae 3 _ rfl;have Ug:=ic.live 3;have Uh:=ic.ae 4 _ rfl;have Ui:=ic.live 4;have Uj:=ic.ae 5 _ rfl;have Uk:=ic.live 5;have Ul:=ic.ae 6 _ rfl;have Um:=ic.live 6));(try (have q1:w1.heap[A2.heap.size+1+1]? =some (.cells #[.int .i64 0,.string {data:=#[]},.bool false,.slice none 0 0,.slice none 0 0,.slice none 0 0,.slice none 0 0] 35):=(hG1.block _ (by first | omega | (simp;omega) | (simp;(first | done | fail))) (by intro e;have e2:=Option.some.inj e;first | omega | (simp at e2;omega) | (simp at e2;(first | done | fail)))).trans tu;have ic:=Bx.of_heap q1;have T9:=ic.ae 0 _ rfl;have Ua:=ic.live 0;have Ub:=ic.ae 1 _ rfl;have Uc:=ic.live 1;have Ud:=ic.ae 2 _ rfl;have Ue:=ic.live 2;have Uf:=ic.ae 3 _ rfl;have Ug:=ic.live 3;have Uh:=ic.ae 4 _ rfl;have Ui:=ic.live 4;have Uj:=ic.ae 5 _ rfl;have Uk:=ic.live 5;have Ul:=ic.ae 6 _ rfl;have Um:=ic.live 6));(try (have qn1:w1.heap[A2.heap.size]? =some (.cells #[] 9):=(hG1.block _ (by first | omega | (simp;omega) | (simp;(first | done | fail))) (by intro e;have e2:=Option.some.inj e;first | omega | (simp at e2;omega) | (simp at e2;(first | done | fail)))).trans tu));(try (have qn1:w1.heap[A2.heap.size+1]? =some (.cells #[] 9):=(hG1.block _ (by first | omega | (simp;omega) | (simp;(first | done | fail))) (by intro e;have e2:=Option.some.inj e;first | omega | (simp at e2;omega) | (simp at e2;(first | done | fail)))).trans tu));(try (have qn1:w1.heap[A2.heap.size+1+1]? =some (.cells #[] 9):=(hG1.block _ (by first | omega | (simp;omega) | (simp;(first | done | fail))) (by intro e;have e2:=Option.some.inj e;first | omega | (simp at e2;omega) | (simp at e2;(first | done | fail)))).trans tu)))
    | (refine rZ (by rfl) (.tmp 19) (.tmp 21) 25 9 rfl Tryz.info9 Tryz.underlying25 rfl (by decide) _ _ na nn nc nk (λc=>c < n0) rfl ?hh rfl (HF4.out _ mD) Ew.out.1 Ew.out.2 HB3.out.2.2.1 HB3.out.2.2.2 ?_;(case hh=>exact tu);intro pb pd w2 hO2 hG2 Wt;have gz2:=hG2.size;(try simp at gz2);have BH:=Pk.out _ _ _ (by have:=HZ2.out;have:=LB.size;first | omega | (simp;omega)) mD hG2;(try (have q2:w2.heap[A2.heap.size]? =some (.cells #[.int .i64 0,.string {data:=#[]},.bool false,.slice none 0 0,.slice none 0 0,.slice none 0 0,.slice none 0 0] 35):=(hG2.block _ (by first | omega | (simp;omega) | (simp;(first | done | fail))) (by intro e;have e2:=Option.some.inj e;first | omega | (simp at e2;omega) | (simp at e2;(first | done | fail)))).trans tu;have dD:=Bx.of_heap q2;have JW:=dD.ae 0 _ rfl;have JX:=dD.live 0;have JY:=dD.ae 1 _ rfl;have JZ:=dD.live 1;have J2:=dD.ae 2 _ rfl;have J3:=dD.live 2;have J4:=dD.ae 3 _ rfl;have J5:=dD.live 3;have J6:=dD.ae 4 _ rfl;have J7:=dD.live 4;have J8:=dD.ae 5 _ rfl;have J9:=dD.live 5;have Ka:=dD.ae 6 _ rfl;have Kb:=dD.live 6));(try (have q2:w2.heap[A2.heap.size+1]? =some (.cells #[.int .i64 0,.string {data:=#[]},.bool false,.slice none 0 0,.slice none 0 0,.slice none 0 0,.slice none 0 0] 35):=(hG2.block _ (by first | omega | (simp;omega) | (simp;(first | done | fail))) (by intro e;have e2:=Option.some.inj e;first | omega | (simp at e2;omega) | (simp at e2;(first | done | fail)))).trans tu;have dD:=Bx.of_heap q2;have JW:=dD.ae 0 _ rfl;have JX:=dD.live 0;have JY:=dD.ae 1 _ rfl;have JZ:=dD.live 1;have J2:=dD.ae 2 _ rfl;have J3:=dD.live 2;have J4:=dD.ae 3 _ rfl;have J5:=dD.live 3;have J6:=dD.ae 4 _ rfl;have J7:=dD.live 4;have J8:=dD.ae 5 _ rfl;have J9:=dD.live 5;have Ka:=dD.ae 6 _ rfl;have Kb:=dD.live 6));(try (have q2:w2.heap[A2.heap.size+1+1]? =some (.cells #[.int .i64 0,.string {data:=#[]},.bool false,.slice none 0 0,.slice none 0 0,.slice none 0 0,.slice none 0 0] 35):=(hG2.block _ (by first | omega | (simp;omega) | (simp;(first | done | fail))) (by intro e;have e2:=Option.some.inj e;first | omega | (simp at e2;omega) | (simp at e2;(first | done | fail)))).trans tu;have dD:=Bx.of_heap q2;have JW:=dD.ae 0 _ rfl;have JX:=dD.live 0;have JY:=dD.ae 1 _ rfl;have JZ:=dD.live 1;have J2:=dD.ae 2 _ rfl;have J3:=dD.live 2;have J4:=dD.ae 3 _ rfl;have J5:=dD.live 3;have J6:=dD.ae 4 _ rfl;have J7:=dD.live 4;have J8:=dD.ae 5 _ rfl;have J9:=dD.live 5;have Ka:=dD.ae 6 _ rfl;have Kb:=dD.live 6));(try (have q2:w2.heap[w1.heap.size]? =some (.cells #[.int .i64 0,.string {data:=#[]},.bool false,.slice none 0 0,.slice none 0 0,.slice none 0 0,.slice none 0 0] 35):=(hG2.block _ (by first | omega | (simp;omega) | (simp;(first | done | fail))) (by intro e;have e2:=Option.some.inj e;first | omega | (simp at e2;omega) | (simp at e2;(first | done | fail)))).trans tu;have dD:=Bx.of_heap q2;have JW:=dD.ae 0 _ rfl;have JX:=dD.live 0;have JY:=dD.ae 1 _ rfl;have JZ:=dD.live 1;have J2:=dD.ae 2 _ rfl;have J3:=dD.live 2;have J4:=dD.ae 3 _ rfl;have J5:=dD.live 3;have J6:=dD.ae 4 _ rfl;have J7:=dD.live 4;have J8:=dD.ae 5 _ rfl;have J9:=dD.live 5;have Ka:=dD.ae 6 _ rfl;have Kb:=dD.live 6));(try (have q2:w2.heap[w1.heap.size+1]? =some (.cells #[.int .i64 0,.string {data:=#[]},.bool false,.slice none 0 0,.slice none 0 0,.slice none 0 0,.slice none 0 0] 35):=(hG2.block _ (by first | omega | (simp;omega) | (simp;(first | done | fail))) (by intro e;have e2:=Option.some.inj e;first | omega | (simp at e2;omega) | (simp at e2;(first | done | fail)))).trans tu;have dD:=Bx.of_heap q2;have JW:=dD.ae 0 _ rfl;have JX:=dD.live 0;have JY:=dD.ae 1 _ rfl;have JZ:=dD.live 1;have J2:=dD.ae 2 _ rfl;have J3:=dD.live 2;have J4:=dD.ae 3 _ rfl;have J5:=dD.live 3;have J6:=dD.ae 4 _ rfl;have J7:=dD.live 4;have J8:=dD.ae 5 _ rfl;have J9:=dD.live 5;have Ka:=dD.ae 6 _ rfl;have Kb:=dD.live 6)))
    | fail)
  all_goals
   go_wp2_with fail;go_meet
   case rel=>
    exact ⟨_,_,_,_,_,rfl,(show OP A2 _ s _ ln nn _ _ _ lk nk _ _ _ _ from OQ HZ2.out HH3.out HH4.out hO1 hG1 hT1 hO2 hG2 Wt mD mD (by (repeat first | with_reducible assumption | (with_reducible refine Kept.dr ?_) | (with_reducible refine Kept.al ?_) | (with_reducible refine Kept.set ?_ (by simp)) | with_reducible exact Kept.refl _ _);(first | done | fail)) (by have:=HZ2.out;have:=LB.size;have:=BH.size;(refine ⟨?_,?_⟩ <;> first | omega | (simp;omega) | (simp;(first | done | fail)))) (by have:=HZ2.out;have:=LB.size;have:=BH.size;(refine ⟨?_,?_,?_,?_⟩ <;> first | omega | (simp;omega) | (simp;(first | done | fail)))) (by have:=HZ2.out;have:=LB.size;have:=BH.size;(refine ⟨?_,?_,?_,?_,?_⟩ <;> first | omega | (simp;omega) | (simp;(first | done | fail)))) (by first | with_reducible exact jd _ _ _ _ _ _ _ q2 | (with_reducible refine JG ?_;(first | rfl | (simp;(first | done | fail))))))⟩
 case rest=>
  obtain ⟨qb,pa,pb,pc,pd,rfl,hcs⟩:=hcut
  rename World=>wx
  have Eo:=hide (hcs.out.start xq.out Ld.out mE.out qY.out);clear hcs k0 HS HF3 HF4 HB3 NU Ew xq Ld mE Pk
  go_upto_region 3 with fail
  have abr:=K8
  go_loopw [4] (λs4 wr=>∃(i:Nat) (r D:Fo) (ga:Option Addr) (gc:Nat),s4=.int .i64 (i:Int)∧i<=kn∧Hid (sF W wr s qb [.int .i64 k,.string nm,.bool mn,.slice la ln lc,.slice na nn nc,.slice ka kn kc,.slice aa an ac] [.int .i64 k,.string nm,.bool mn,.slice pa ln pc,.slice pb nn pd,.slice ga i gc,.slice none 0 0] 35 7 i (.slice ga i gc) D [.row 71 9 (.slice none 0 0) 0 .nil,.fo (.s pb nn pd nk .nil),.fo (.s pa ln pc lk .nil)])∧Hid (Rd E (E 3) kn n0 ka i r W)∧Hid ((∃Kd:Fo,kk=Kd.app r∧D.aG Kd)∧r.size<=m∧r.wt<=1048576)) (λs4 _=>kn - (intOf s4).toNat)
  case atStart=>exact ⟨0,kk,.nil,none,0,rfl,Nat.zero_le _,Eo,K8,⟨⟨.nil,rfl,trivial⟩,BA.out.1,by have:=BA.out.2.2.1;omega⟩⟩
  case round=>
   clear Eo;obtain ⟨i,r,D,ga,gc,rfl,hin,hI,hR,hB⟩:=hrel;have u5:=hI.out.b0.ae 5 _ rfl
   by_cases hi:i < kn
   .obtain ⟨x,q,b,o,rfl,hx,rfl,hb,hc,hxs,dx⟩:=hR.out.next hi (by decide)
    have hii:(i:Int) < (kn:Int):=by omega
    have hnn:=Ri.out;rw [qY.out] at hnn;obtain ⟨⟨Kd,eK,hDs⟩,hrs,hrw⟩:=hB.out;rw [Fo.aM] at hrs;rw [Fo.dN] at hrw;obtain ⟨xk,dJ,bP,dO,bQ,dP,wy,dQ,bR,dR,wz,dU,bS,dV,wB,dW,bT,dX,wC,hxe,-⟩:=ag hx;have hxv:x.vals=[.int .i64 xk,.string dJ,.bool bP,.slice dO bQ dP,.slice dQ bR dR,.slice dU bS dV,.slice dW bT dX]:=by rw [hxe];rfl
    replace hc:=hc.below hI.out.be (by omega);rw [hxv] at hc;have hcx:∀V,Kept (λc=>c < s+2∨c=qb) wr V->V.cell? ⟨b,o+i * 7,none⟩=some (.int .i64 xk)∧V.cell? ⟨b,o+i * 7+1,none⟩=some (.string dJ)∧V.cell? ⟨b,o+i * 7+2,none⟩=some (.bool bP)∧V.cell? ⟨b,o+i * 7+3,none⟩=some (.slice dO bQ dP)∧V.cell? ⟨b,o+i * 7+4,none⟩=some (.slice dQ bR dR)∧V.cell? ⟨b,o+i * 7+5,none⟩=some (.slice dU bS dV)∧V.cell? ⟨b,o+i * 7+6,none⟩=some (.slice dW bT dX):=λV kV=>by
     have h:=hc.kept kV (by have:=hI.out.b0.lt;omega) (show b < s+2∨b=qb from .inl (by omega));exact ⟨h 0 _ rfl,h 1 _ rfl,h 2 _ rfl,h 3 _ rfl,h 4 _ rfl,h 5 _ rfl,h 6 _ rfl⟩
    obtain ⟨y0,y1,y2,y3,y4,y5,y6⟩:=hcx wr (Kept.refl _ _);have pg:Hid (∀V,Kept (λ_=>True) wr V->Calls Tryz.prog 16 #[.agg #[.int .i64 xk,.string dJ,.bool bP,.slice dO bQ dP,.slice dQ bR dR,.slice dU bS dV,.slice dW bT dX]] V λe w5=>∃v,e=.returned v∧∃(jN jO jP jQ:Option Addr) (jR jS jT jU:Nat),v=.agg #[.int .i64 xk,.string dJ,.bool bP,.slice jN bQ jR,.slice jO bR jS,.slice jP bS jT,.slice jQ bT jU]∧Hid (∃G:Fo,G.vals=[.int .i64 xk,.string dJ,.bool bP,.slice jN bQ jR,.slice jO bR jS,.slice jP bS jT,.slice jQ bT jU]∧G.aG x∧Own wr.heap.size w5 G∧Kept (λ_=>True) wr w5)):=λV hV=>by
     have hb1:Below s W V:=Below.kept hI.out.be hV (λ_ _=>trivial) (Nat.le_of_eq hI.out.ws.symm);have h:=xW.out x n0 V (by omega) hx (by have:=hb1.size;have:=hI.out.ws;omega) (by omega) (hxs.below hb1 (λc hc=>by omega));rw [hxv] at h;refine h.mono ?_;rintro e w5 ⟨G,rfl,g1,g2,g3⟩;have g1':=g1;rw [hxe] at g1;obtain ⟨u0,rfl,s1⟩:=Fo.aP g1;obtain ⟨u1,rfl,s2⟩:=Fo.aP s1;obtain ⟨u2,rfl,s3⟩:=Fo.aP s2;obtain ⟨jN,jR,L1,u3,rfl,s4,t4⟩:=Fo.aI s3;obtain ⟨jO,jS,L2,u4,rfl,s5,t5⟩:=Fo.aI t4;obtain ⟨jP,jT,L3,u5,rfl,s6,t6⟩:=Fo.aI t5;obtain ⟨jQ,jU,L4,u6,rfl,s7,t7⟩:=Fo.aI t6;obtain rfl:=Fo.cB t7;exact ⟨_,rfl,jN,jO,jP,jQ,jR,jS,jT,jU,rfl,_,rfl,g1',⟨g3.subs.mono (λc hc=>⟨Nat.le_trans hV.size hc.1,hc.2⟩),g3.nodup,g3.live⟩,hV.trans (kt g2)⟩
    have hrow:=hI.out.hp.ok _ List.mem_cons_self;have HOW:Hid (∀V,Kept (λ_=>True) wr V->V.ownsRow 0 35 7 (.slice ga i gc) i D.vals):=λV hV=>aj hrow.1 hV (λ_ _=>trivial)
    have DD:Hid (∀c,(Value.slice ga i gc).ownBlock=some c->¬(c < s+2∨c=qb)):=λc hc=>hI.out.hp.fr c (List.mem_append.2 (.inl (List.mem_append.2 (.inl (jw.2 hc)))))
    have sG:Hid (∀w5 w7 ob,Kept (λ_=>True) wr w5->(w5.alloc ob).grownBy w7 (Value.slice ga i gc).ownBlock->Kept (λc=>c < s+2∨c=qb) wr w7):=λw5 w7 ob k5 hG=>((k5.al).mono (λ_ _ _=>trivial)).trans (Kept.grown hG (λc e h=>DD.out c e h))
    have eO:=hide hI.out.b2;have p5:=eO.out.ae 5 _ rfl;have HR1:=hide dx;have xC:Hid (i+1<=maxLen∧(i+1)* 128<=140737488355328):=by have:=BA.out.2.2.1;exact ⟨by unfold maxLen;omega,by omega⟩
    have vG:=hI;have xD:Hid ((∃Kd:Fo,kk=(Kd.app x).app q∧∀G:Fo,G.aG x->(D.app G).aG (Kd.app x))∧q.size<=m∧q.wt<=1048576):=⟨⟨Kd,by rw [Fo.fw];exact eK,λG hG=>Fo.aG.app hDs hG⟩,by omega,by omega⟩
    clear hc hcx hxs hx hxe hxv hrs hrw hrow hR dx hnn hb eK hDs hB hI
    go_upto_region 5 with fail
    go_region_law (first
     | (refine aX (by rfl) 16 #[.agg #[.int .i64 xk,.string dJ,.bool bP,.slice dO bQ dP,.slice dQ bR dR,.slice dU bS dV,.slice dW bT dX]] (by simp [go_sem]) _ (pg.out _ ⟨rfl,rfl,rfl,Nat.le_refl _,λ_ _ _=>rfl⟩) ?_;rintro v5 w5 ⟨jN,jO,jP,jQ,jR,jS,jT,jU,rfl,h5⟩;have Sy:Hid (Kept (λ_=>True) wr w5):=(by obtain ⟨G,-,-,-,hk⟩:=h5.out;exact hk);have b5:=eO.out.kept Sy.out trivial;have p55:=b5.ae 5 _ rfl;have l55:=b5.live 5;have p65:=(b5.kept (Kept.alloc (λ_=>True) _ (.cells #[.int .i64 xk,.string dJ,.bool bP,.slice jN bQ jR,.slice jO bR jS,.slice jP bS jT,.slice jQ bT jU] 35)) trivial).ae 5 _ rfl;clear b5)
     | (refine mG (by rfl) _ _ 32 35 (by rfl) Tryz.info35 Tryz.underlying32 rfl (by decide) 0 _ (.slice ga i gc) i D.vals [.int .i64 xk,.string dJ,.bool bP,.slice jN bQ jR,.slice jO bR jS,.slice jP bS jT,.slice jQ bT jU] _ 1 (by rfl) (HOW.out _ Sy.out.al) (by rfl) (bH _ _) (Nat.zero_le _) rfl (by simp [Value.oneCell']) xC.out.1 xC.out.2 ?_;intro g7 cp w7 gX fB jm;have b7:=eO.out.kept (sG.out _ _ _ Sy.out fB) (.inr rfl);have p7:=b7.ae 5 _ rfl;have l7:=b7.live 5;clear b7)
     | fail)
    all_goals
     have HF:Hid (sF W (w7.setCell ⟨qb,5,none⟩ (.slice (some ⟨g7,0,none⟩) (i+1) cp)) s qb [.int .i64 k,.string nm,.bool mn,.slice la ln lc,.slice na nn nc,.slice (some ⟨b,o,none⟩) kn kc,.slice aa an ac] [.int .i64 k,.string nm,.bool mn,.slice pa ln pc,.slice pb nn pd,.slice (some ⟨g7,0,none⟩) (i+1) cp,.slice none 0 0] 35 7 (i+1) (.slice (some ⟨g7,0,none⟩) (i+1) cp) (D.app (qI h5)) [.row 71 9 (.slice none 0 0) 0 .nil,.fo (.s pb nn pd nk .nil),.fo (.s pa ln pc lk .nil)]):=(by
      have hG:=gU h5;have hoA:Own wr.heap.size (w5.alloc (.cells #[.int .i64 xk,.string dJ,.bool bP,.slice jN bQ jR,.slice jO bR jS,.slice jP bS jT,.slice jQ bT jU] 35)) (qI h5):=hG.2.2.1.kept (Kept.alloc (λ_=>True) _ _) (λ_ _ _=>trivial);exact vG.out.step (j:=5) hoA (hG.2.2.2.trans (Kept.alloc _ _ _)) (by rw [hG.1];exact gX) fB (jm.elim (λe=>.inl e.symm) (λe=>.inr (congrArg some e))) (by simp))
     have mJ:Hid ((∃Kd:Fo,kk=Kd.app q∧(D.app (qI h5)).aG Kd)∧q.size<=m∧q.wt<=1048576):=(by
      obtain ⟨⟨Kd,e1,e2⟩,e3,e4⟩:=xD.out;exact ⟨⟨_,e1,e2 _ (gU h5).2.1⟩,e3,e4⟩)
     clear gX fB jm Sy vG HOW DD sG eO pg xD;go_wp2_with fail;go_roundw
     case rel=>exact ⟨i+1,q,_,_,_,by go_num,by omega,HF,HR1,mJ⟩
     case measure=>simp [intOf];omega
   .obtain ⟨rfl,rfl⟩:=hR.out.done hi
    have hii:¬(i:Int) < (i:Int):=by omega
    obtain ⟨⟨Kd,eK,hDs⟩,-,-⟩:=hB.out;rw [Fo.jl] at eK;subst eK;have Cx:=hide hDs;have HI2:=hide hI.out.turn;have u6:=hI.out.b0.ae 6 _ rfl;clear hI hR hB hDs
    go_upto_region 7 with fail
    all_goals
     go_loopw [5] (λs5 wq=>∃(j:Nat) (r2 D2:Fo) (ha:Option Addr) (hc:Nat),s5=.int .i64 (j:Int)∧j<=an∧Hid (sF W wq s qb [.int .i64 k,.string nm,.bool mn,.slice la ln lc,.slice na nn nc,.slice ka i kc,.slice aa an ac] [.int .i64 k,.string nm,.bool mn,.slice pa ln pc,.slice pb nn pd,.slice ga i gc,.slice ha j hc] 71 9 j (.slice ha j hc) D2 [.fo (.s ga i gc D .nil),.fo (.s pb nn pd nk .nil),.fo (.s pa ln pc lk .nil)])∧Hid (Rd E (E 2) an n0 aa j r2 W)∧Hid ((∃Kd:Fo,ak=Kd.app r2∧D2.aG Kd)∧r2.size<=m∧r2.wt<=1048576)) (λs5 _=>an - (intOf s5).toNat)
     case atStart=>exact ⟨0,ak,.nil,none,0,rfl,Nat.zero_le _,HI2,Ad,⟨⟨.nil,rfl,trivial⟩,BA.out.2.1,by have:=BA.out.2.2.2;omega⟩⟩
     case round=>
      clear HI2;obtain ⟨j,r,D2,ha,hc',rfl,hin2,hI,hR,hB⟩:=hrel;have u6:=hI.out.b0.ae 6 _ rfl
      by_cases hj:j < an
      .obtain ⟨x,q,b,o,rfl,hx,rfl,hb,hc,hxs,dx⟩:=hR.out.next hj (by decide)
       have hii2:(j:Int) < (an:Int):=by omega
       have hnn:=Ri.out;rw [qY.out] at hnn;obtain ⟨⟨Kd,eK,FR⟩,hrs,hrw⟩:=hB.out;rw [Fo.aM] at hrs;rw [Fo.dN] at hrw;obtain ⟨au,ca,cn,cc,ck,y,hxa,-,hck,hy⟩:=aK hx;obtain ⟨xk,dJ,bP,dO,bQ,dP,wy,dQ,bR,dR,wz,dU,bS,dV,wB,dW,bT,dX,wC,hye,-⟩:=ag hy;have hyv:y.vals=[.int .i64 xk,.string dJ,.bool bP,.slice dO bQ dP,.slice dQ bR dR,.slice dU bS dV,.slice dW bT dX]:=by rw [hye];rfl
       have hxv:x.vals=[.string au,.slice ca cn cc,.int .i64 xk,.string dJ,.bool bP,.slice dO bQ dP,.slice dQ bR dR,.slice dU bS dV,.slice dW bT dX]:=by rw [hxa];simp only [Fo.vals,hyv]
       rw [hxa] at hxs hrs hrw;obtain ⟨hsc,hsy⟩:=hxs;simp only [Fo.size] at hrs;simp only [Fo.wt,bU] at hrw;replace hc:=hc.below hI.out.be (by omega);rw [hxv] at hc;have hbl:=hI.out.b0.lt;have MO:=hI.out.b2.lt;have hlo:=hI.out.lo;have hws:=hI.out.ws;have kr:Hid (∀V,Kept (λc=>c < s+2) wr V->V.cell? ⟨s,6,none⟩=some (.slice (some ⟨b,o,none⟩) an ac)∧V.cell? ⟨b,o+j * 9,none⟩=some (.string au)∧V.cell? ⟨b,o+j * 9+1,none⟩=some (.slice ca cn cc)∧V.cell? ⟨b,o+j * 9+2,none⟩=some (.int .i64 xk)∧V.cell? ⟨b,o+j * 9+2+1,none⟩=some (.string dJ)∧V.cell? ⟨b,o+j * 9+2+2,none⟩=some (.bool bP)∧V.cell? ⟨b,o+j * 9+2+3,none⟩=some (.slice dO bQ dP)∧V.cell? ⟨b,o+j * 9+2+4,none⟩=some (.slice dQ bR dR)∧V.cell? ⟨b,o+j * 9+2+5,none⟩=some (.slice dU bS dV)∧V.cell? ⟨b,o+j * 9+2+6,none⟩=some (.slice dW bT dX)):=λV kV=>by
        have h:=hc.kept kV (by omega) (show b < s+2 by omega);exact ⟨((hI.out.b0.kept kV (show s < s+2 by omega)).ae 6 _ rfl),h 0 _ rfl,h 1 _ rfl,h 2 _ rfl,h 3 _ rfl,h 4 _ rfl,h 5 _ rfl,h 6 _ rfl,h 7 _ rfl,h 8 _ rfl⟩
       have pg:Hid (∀V,Kept (λ_=>True) wr V->Calls Tryz.prog 16 #[.agg #[.int .i64 xk,.string dJ,.bool bP,.slice dO bQ dP,.slice dQ bR dR,.slice dU bS dV,.slice dW bT dX]] V λe w5=>∃v,e=.returned v∧∃(jN jO jP jQ:Option Addr) (jR jS jT jU:Nat),v=.agg #[.int .i64 xk,.string dJ,.bool bP,.slice jN bQ jR,.slice jO bR jS,.slice jP bS jT,.slice jQ bT jU]∧Hid (∃G:Fo,G.vals=[.int .i64 xk,.string dJ,.bool bP,.slice jN bQ jR,.slice jO bR jS,.slice jP bS jT,.slice jQ bT jU]∧G.aG y∧Own V.heap.size w5 G∧Below V.heap.size V w5)):=λV hV=>by
        have hb1:Below s W V:=Below.kept hI.out.be hV (λ_ _=>trivial) (Nat.le_of_eq hI.out.ws.symm);have h:=xW.out y n0 V (by omega) hy (by have:=hb1.size;omega) (by omega) (Fo.av.below hb1 (λc hc=>by omega) hsy);rw [hyv] at h;refine h.mono ?_;rintro e w5 ⟨G,rfl,g1,g2,g3⟩;have g1':=g1;rw [hye] at g1;obtain ⟨u0,rfl,s1⟩:=Fo.aP g1;obtain ⟨u1,rfl,s2⟩:=Fo.aP s1;obtain ⟨u2,rfl,s3⟩:=Fo.aP s2;obtain ⟨jN,jR,L1,u3,rfl,s4,t4⟩:=Fo.aI s3;obtain ⟨jO,jS,L2,u4,rfl,s5,t5⟩:=Fo.aI t4;obtain ⟨jP,jT,L3,u5,rfl,s6,t6⟩:=Fo.aI t5;obtain ⟨jQ,jU,L4,u6,rfl,s7,t7⟩:=Fo.aI t6;obtain rfl:=Fo.cB t7;exact ⟨_,rfl,jN,jO,jP,jQ,jR,jS,jT,jU,rfl,_,rfl,g1',g3,g2⟩
       have hrow:=hI.out.hp.ok _ List.mem_cons_self;have HOW:Hid (∀V,Kept (λ_=>True) wr V->V.ownsRow 0 71 9 (.slice ha j hc') j D2.vals):=λV hV=>aj hrow.1 hV (λ_ _=>trivial)
       have DD:Hid (∀c,(Value.slice ha j hc').ownBlock=some c->¬(c < s+2∨c=qb)):=λc hc=>hI.out.hp.fr c (List.mem_append.2 (.inl (List.mem_append.2 (.inl (jw.2 hc)))))
       have sG:Hid (∀w5 w7,Kept (λ_=>True) wr w5->w5.grownBy w7 (Value.slice ha j hc').ownBlock->Kept (λc=>c < s+2∨c=qb) wr w7):=λw5 w7 k5 hG=>(k5.mono (λ_ _ _=>trivial)).trans (Kept.grown hG (λc e h=>DD.out c e h))
       have Wu:Hid (∀(wa w':World),Kept (λ_=>True) wr wa->wa.grownBy w' (some wr.heap.size)->Kept (λ_=>True) wr w'):=λwa w' kw hG=>((kw.mono (T:=λc=>c < wr.heap.size) (λ_ _ _=>trivial)).trans (Kept.grown hG (λc e h=>by have:=Option.some.inj e;omega))).mono (λc hlt _=>hlt)
       have AY:Hid (∀V,Kept (λ_=>True) wr V->Kept (λc=>c < s+2) wr V):=λV k=>k.mono (λ_ _ _=>trivial)
       have AZ:Hid (∀V,Kept (λc=>c < s+2∨c=qb) wr V->Kept (λc=>c < s+2) wr V):=λV k=>k.mono (λ_ _ hc=>.inl hc)
       have Ai:Hid (∀V,Kept (λ_=>True) wr V->ck.Sub V (λc=>c < n0) ca cn cc):=λV hV=>Fo.Sub.below (Below.kept hI.out.be hV (λ_ _=>trivial) (Nat.le_of_eq hI.out.ws.symm)) (λc hc=>by omega) (show ck.Sub W (λc=>c < n0) ca cn cc from hsc)
       have ym:Hid (ck.vals.length=cn * 1∧(∀u∈ck.vals,u.oneCell'=true)∧cn<=maxLen∧cn * 16<=140737488355328):=⟨by rw [(nR cn ck hck).1];omega,(nR cn ck hck).2.1,by unfold maxLen;omega,by omega⟩
       have Pm:=hide hck;have eO:=hide hI.out.b2;have p6:=eO.out.ae 6 _ rfl;have p6d:wr.drew.cell? ⟨qb,6,none⟩=some (.slice ha j hc'):=p6;have p6a:=(eO.out.kept (Kept.alloc (λ_=>True) _ (.cells #[] 9)) trivial).ae 6 _ rfl;have p6e:(wr.alloc (.cells #[] 9)).drew.cell? ⟨qb,6,none⟩=some (.slice ha j hc'):=p6a;have k0:=kr.out wr.drew (Kept.drew _ _);have HR1:=hide dx;have xC:Hid (j+1<=maxLen∧(j+1)* 168<=140737488355328):=by have:=BA.out.2.2.2;exact ⟨by unfold maxLen;omega,by omega⟩
       have vG:=hI;have xD:Hid ((∃Kd:Fo,ak=(Kd.app x).app q∧∀(G:Fo) (pa:Option Addr) (pc:Nat),G.aG y->(D2.app (.v (.string au) (.s pa cn pc ck G))).aG (Kd.app x))∧q.size<=m∧q.wt<=1048576):=⟨⟨Kd,by rw [Fo.fw];exact eK,λG pa pc hG=>Fo.aG.app FR (by rw [hxa];exact ⟨rfl,rfl,Fo.aG.refl _,hG⟩)⟩,by omega,by omega⟩
       clear hc hsc hsy hx hxa hck hy hye hyv hxv hrs hrw hrow hR dx hnn hb eK FR hB hI hbl MO hlo hws
       go_upto_region 9 with fail
       refine wp_region_held_drew (S:=(λV=>V.cell? ⟨s,6,none⟩=some (.slice (some ⟨b,o,none⟩) an ac)∧V.cell? ⟨b,o+j * 9,none⟩=some (.string au)∧V.cell? ⟨b,o+j * 9+1,none⟩=some (.slice ca cn cc)∧V.cell? ⟨b,o+j * 9+2,none⟩=some (.int .i64 xk)∧V.cell? ⟨b,o+j * 9+2+1,none⟩=some (.string dJ)∧V.cell? ⟨b,o+j * 9+2+2,none⟩=some (.bool bP)∧V.cell? ⟨b,o+j * 9+2+3,none⟩=some (.slice dO bQ dP)∧V.cell? ⟨b,o+j * 9+2+4,none⟩=some (.slice dQ bR dR)∧V.cell? ⟨b,o+j * 9+2+5,none⟩=some (.slice dU bS dV)∧V.cell? ⟨b,o+j * 9+2+6,none⟩=some (.slice dW bT dX))) (by kernel_rfl) k0 (λhHeld=>?_);refine tk 0 ?_;simp only [Act.put];refine tk 2 ?_;simp only [Act.put];refine tk 3 ?_;simp only [Act.put];refine tk 4 ?_;simp only [Act.put];refine tk 5 ?_;simp only [Act.put];refine tk 6 ?_;simp only [Act.put];refine tk 7 ?_;simp only [Act.put];refine tk 9 ?_;simp only [Act.put];refine tk 10 ?_;simp only [Act.put]
       refine tk 11 ?_;simp only [Act.put];refine tk 12 ?_;simp only [Act.put];refine tk 13 ?_;simp only [Act.put];refine tk 14 ?_;simp only [Act.put];refine tk 16 ?_;simp only [Act.put];refine tk 17 ?_;simp only [Act.put];refine tk 18 ?_;simp only [Act.put];refine tk 19 ?_;simp only [Act.put];refine tk 20 ?_;simp only [Act.put];refine tk 21 ?_;simp only [Act.put];refine wpAnyH_ready (rs:=[1,8]) (by kernel_rfl) (by simp) ?_;refine AllReadyH.cons rfl (λK hK=>?_) ?_
       next=>
        go_simp;refine hK.out _ _ ?_ (λhHeld=>?_)
        next=>
         exact zz32
        clear hK K;refine rk 8 (λK hK=>?_);exact zz44
       refine AllReadyH.cons rfl (λK hK=>?_) ?_
       next=>
        go_simp;refine hK.out _ _ ?_ (λhHeld=>?_)
        next=>
         exact zz32
        clear hK K;refine wpAnyH_ready (rs:=[1,15]) (by kernel_rfl) (by simp) ?_;refine AllReadyH.cons rfl (λK hK=>?_) ?_
        next=>
         exact zz44
        refine AllReadyH.cons rfl (λK hK=>?_) ?_
        next=>
         (refine rZ (by rfl) (.tmp 57) (.tmp 63) 25 9 rfl Tryz.info9 Tryz.underlying25 rfl (by decide) _ _ ca cn cc ck (λc=>c < n0) rfl ?hh rfl (Ai.out _ mD) ym.out.1 ym.out.2.1 ym.out.2.2.1 ym.out.2.2.2 ?_;(case hh=>exact tu);intro na' bI w3 hO3 hG3 IY;have K3:=Wu.out _ _ mD hG3;have kl3:=AY.out _ K3;have b3:=eO.out.kept K3 trivial;have p63:=b3.ae 6 _ rfl;clear b3)
         refine hK.out _ _ ?_ (λhHeld=>?_)
         next=>
          exact zz32
         clear hK K;refine wpAnyH_ready (rs:=[1,22]) (by kernel_rfl) (by simp) ?_;refine AllReadyH.cons rfl (λK hK=>?_) ?_
         next=>
          go_simp;exact zz6
         refine AllReadyH.cons rfl (λK hK=>?_) ?_
         next=>
          (refine aX (by rfl) 16 #[.agg #[.int .i64 xk,.string dJ,.bool bP,.slice dO bQ dP,.slice dQ bR dR,.slice dU bS dV,.slice dW bT dX]] (by simp [go_sem]) _ (pg.out _ mD) ?_;rintro v5 w5 ⟨jN,jO,jP,jQ,jR,jS,jT,jU,rfl,h5⟩;have K5:Kept (λ_=>True) wr w5:=K3.trans (by obtain ⟨G,-,-,-,hk⟩:=h5.out;exact kt hk);have Wv:=AY.out _ K5;have b5:=eO.out.kept K5 trivial;have p65:=b5.ae 6 _ rfl;have p66:=(b5.kept (Kept.alloc (λ_=>True) _ (.cells #[.string au,.slice na' cn bI,.int .i64 xk,.string dJ,.bool bP,.slice jN bQ jR,.slice jO bR jS,.slice jP bS jT,.slice jQ bT jU] 71)) trivial).ae 6 _ rfl;clear b5)
          refine hK.out _ _ ?_ (λhHeld=>?_)
          next=>
           exact zz32
          clear hK K;refine tk 23 ?_;simp only [Act.put];refine wpAnyH_ready (rs:=[1,24]) (by kernel_rfl) (by simp) ?_;refine AllReadyH.cons rfl (λK hK=>?_) ?_
          next=>
           go_simp;refine hK.out _ _ ?_ (λhHeld=>?_)
           next=>
            exact zz32
           clear hK K;refine rk 24 (λK hK=>?_);exact zz0
          refine AllReadyH.cons rfl (λK hK=>?_) ?_
          next=>
           go_simp;refine hK.out _ _ ?_ (λhHeld=>?_)
           next=>
            exact zz32
           clear hK K;refine rk 1 (λK hK=>?_);exact zz0
          exact AllReadyH.nil
         exact AllReadyH.nil
        exact AllReadyH.nil
       exact AllReadyH.nil
      .obtain ⟨rfl,rfl⟩:=hR.out.done hj
       have hjj:¬(j:Int) < (j:Int):=by omega
       obtain ⟨⟨Kd,eK,FR⟩,-,-⟩:=hB.out;rw [Fo.jl] at eK;subst eK;have r0:=hI.out.b2.ae 0 _ rfl;have r1:=hI.out.b2.ae 1 _ rfl;have r2:=hI.out.b2.ae 2 _ rfl;have r3:=hI.out.b2.ae 3 _ rfl;have r4:=hI.out.b2.ae 4 _ rfl;have r5:=hI.out.b2.ae 5 _ rfl;have r6:=hI.out.b2.ae 6 _ rfl;have m0:=hI.out.b1.ae 0 _ rfl;have m1:=hI.out.b1.ae 1 _ rfl;have m2:=hI.out.b1.ae 2 _ rfl;have m3:=hI.out.b1.ae 3 _ rfl;have m4:=hI.out.b1.ae 4 _ rfl;have m5:=hI.out.b1.ae 5 _ rfl;have m6:=hI.out.b1.ae 6 _ rfl;have l0:=hI.out.b1.live 0;have l1:=hI.out.b1.live 1;have l2:=hI.out.b1.live 2;have l3:=hI.out.b1.live 3;have l4:=hI.out.b1.live 4;have l5:=hI.out.b1.live 5;have l6:=hI.out.b1.live 6;have kC:Hid (∀V,Kept (λc=>c≠s+1) wr V->_):=λV kV=>hI.out.fin (k:=.int .i64 k) (nm:=.string nm) (mn:=.bool mn) kV
       have HDS:=hide FR;clear hI hR hB FR;go_wp2_with fail;refine bodyPost_ret (v:=.agg #[.int .i64 k,.string nm,.bool mn,.slice pa ln pc,.slice pb nn pd,.slice ga i gc,.slice ha j hc']) (by simp [results,Tryz.results16,go_sem,m0,m1,m2,m3,m4,m5,m6]) rfl ⟨.v (.int .i64 k) (.v (.string nm) (.v (.bool mn) (.s pa ln pc lk (.s pb nn pd nk (.s ga i gc D (.s ha j hc' D2 .nil)))))),rfl,⟨rfl,rfl,rfl,rfl,Fo.aG.refl _,rfl,Fo.aG.refl _,rfl,Cx.out,rfl,HDS.out,trivial⟩,?_⟩;rw [qY.out];exact kC.out _ (by (repeat first | (with_reducible refine Kept.set ?_ (by simp)) | with_reducible exact Kept.refl _ _);(first | done | fail))
end Go.Proofs.YthfnobboalhihaaGreat
