import Derived.Test.YthfnobboalhihaaGreatRq
import Derived.Test.YthfnobboalhihaaGreatDn
set_option maxHeartbeats 4000000
set_option maxRecDepth 100000
namespace Go.Proofs.YthfnobboalhihaaGreat
open Go.RowKit Go.Joins
theorem zz121 {P:Prop} (h:P:=by
 have b2:=(bx.kept (Kept.alloc (λ_=>True) V1 (.cells #[.pointer (some ⟨db,jb,none⟩)] 116)) trivial).kept (Kept.drew (λ_=>True) _) trivial;exact ⟨b2.ae 0 _ rfl,b2.ae 1 _ rfl⟩):P:=h
theorem zz211 {P:Prop} (h:P:=by
 have b2:=bx.kept (Kept.drew (λ_=>True) V1) trivial;exact ⟨b2.ae 0 _ rfl,b2.ae 1 _ rfl⟩):P:=h
theorem zz212 {P:Prop} (h:P:=by
 go_wp2_with fail;refine bodyPost_ret (results_none rfl _ _ _) rfl ?_;exact ⟨rfl,iX.out.1⟩):P:=h
theorem aah (p:Value) (w:World):(method 350 116 (.agg #[p]) "loop.example/g00017/impl.goThrough").run Tryz.prog w=.ok (151,.agg #[p]) w:=by kernel_rfl
theorem aai (p:Value) (w:World):(method 350 119 (.agg #[p]) "loop.example/g00017/impl.goThrough").run Tryz.prog w=.ok (151,.agg #[p]) w:=by kernel_rfl
theorem aaj (p:Value) (w:World):(method 350 120 (.agg #[p]) "loop.example/g00017/impl.goThrough").run Tryz.prog w=.ok (151,.agg #[p]) w:=by kernel_rfl
theorem aak (p:Value) (w:World):(method 350 121 (.agg #[p]) "loop.example/g00017/impl.goThrough").run Tryz.prog w=.ok (151,.agg #[p]) w:=by kernel_rfl
theorem aal (p:Value) (w:World):(method 350 122 (.agg #[p]) "loop.example/g00017/impl.goThrough").run Tryz.prog w=.ok (151,.agg #[p]) w:=by kernel_rfl
theorem aam (p:Value) (w:World):(method 350 123 (.agg #[p]) "loop.example/g00017/impl.goThrough").run Tryz.prog w=.ok (151,.agg #[p]) w:=by kernel_rfl
theorem aan (p:Value) (w:World):(method 350 124 (.agg #[p]) "loop.example/g00017/impl.goThrough").run Tryz.prog w=.ok (151,.agg #[p]) w:=by kernel_rfl
theorem aao (p:Value) (w:World):(method 350 125 (.agg #[p]) "loop.example/g00017/impl.goThrough").run Tryz.prog w=.ok (170,.agg #[p]) w:=by kernel_rfl
theorem aap (p:Value) (w:World):(method 350 126 (.agg #[p]) "loop.example/g00017/impl.goThrough").run Tryz.prog w=.ok (151,.agg #[p]) w:=by kernel_rfl
theorem Wz (p:Value) (w:World):(method 350 127 (.agg #[p]) "loop.example/g00017/impl.goThrough").run Tryz.prog w=.ok (151,.agg #[p]) w:=by kernel_rfl
theorem SH (k:Int) (e1:¬k=1) (e8:¬k=8) (p:Value) (w:World):(method 350 (C.Es k) (.agg #[p]) "loop.example/g00017/impl.goThrough").run Tryz.prog w=.ok (151,.agg #[p]) w:=by
 unfold C.Es;rw [if_neg e1]
 by_cases e2:k=2
 .rw [if_pos e2];exact aai p w
 by_cases e3:k=3
 .rw [if_neg e2,if_pos e3];exact aaj p w
 by_cases e4:k=4
 .rw [if_neg e2,if_neg e3,if_pos e4];exact aak p w
 by_cases e5:k=5
 .rw [if_neg e2,if_neg e3,if_neg e4,if_pos e5];exact aal p w
 by_cases e6:k=6
 .rw [if_neg e2,if_neg e3,if_neg e4,if_neg e5,if_pos e6];exact aam p w
 by_cases e7:k=7
 .rw [if_neg e2,if_neg e3,if_neg e4,if_neg e5,if_neg e6,if_pos e7];exact aan p w
 by_cases e9:k=9
 .rw [if_neg e2,if_neg e3,if_neg e4,if_neg e5,if_neg e6,if_neg e7,if_neg e8,if_pos e9];exact aap p w
 by_cases e10:k=10
 .rw [if_neg e2,if_neg e3,if_neg e4,if_neg e5,if_neg e6,if_neg e7,if_neg e8,if_neg e9,if_pos e10];exact Wz p w
 rw [if_neg e2,if_neg e3,if_neg e4,if_neg e5,if_neg e6,if_neg e7,if_neg e8,if_neg e9,if_neg e10];exact aah p w
theorem VL {f t:ByteArray} (db jb:Nat) (k:Int) (e1:¬k=1) (e8:¬k=8) (W:World) (c0:W.cell? ⟨db,jb,none⟩=some (.int .i64 k)) (R:World->Prop)
  (h:∀V1,Kept (λ_=>True) W V1->(V1.cell? ⟨W.heap.size,0,none⟩=some (.string f)∧V1.cell? ⟨W.heap.size,1,none⟩=some (.string t))->Calls Tryz.prog 151 #[.agg #[.pointer (some ⟨db,jb,none⟩)],.iface 53 (.agg #[.string f,.string t])] V1 λe W'=>e=.returned (.tuple #[])∧Hid (R W'∧W'.cell? ⟨W.heap.size,0,none⟩=some (.string f)∧W'.cell? ⟨W.heap.size,1,none⟩=some (.string t))):
  Calls Tryz.prog 25 #[.agg #[.string f,.string t],.pointer (some ⟨db,jb,none⟩)] W λe W'=>e=.returned (.tuple #[])∧R W':=by
 obtain ⟨V1,hV1⟩:∃V1,W.alloc (.cells #[.string f,.string t] 53)=V1:=⟨_,rfl⟩
 have k1:Kept (λ_=>True) W V1:=by rw [<- hV1];exact Kept.alloc _ _ _
 have bx:Bx V1 W.heap.size [.string f,.string t]:=by rw [<- hV1];exact Bx.new _ _ _
 have d0:=bx.ae 0 _ rfl;have d1:=bx.ae 1 _ rfl;have c1:=(k1.cell (p:=⟨db,jb,none⟩) (block_lt_of_cell c0) trivial).trans c0;have c2:=((Kept.drew (λ_=>True) V1).cell (p:=⟨db,jb,none⟩) (block_lt_of_cell c1) trivial).trans c1;have HT:=hide (C.Jw ⟨db,jb,.nil⟩ V1.drew k c2 (block_lt_of_cell c2));simp only [C.Nd.ptr] at HT;have gD:=hide hV1;have hne:(k !=1)=true:=by rw [bne_iff_ne];exact e1
 have eD:V1.drew.cell? ⟨W.heap.size,0,none⟩=some (.string f)∧V1.drew.cell? ⟨W.heap.size,1,none⟩=some (.string t):=by
  exact zz211
 have dK:(V1.alloc (.cells #[.pointer (some ⟨db,jb,none⟩)] 116)).drew.cell? ⟨W.heap.size,0,none⟩=some (.string f)∧(V1.alloc (.cells #[.pointer (some ⟨db,jb,none⟩)] 116)).drew.cell? ⟨W.heap.size,1,none⟩=some (.string t):=by
  exact zz121
 have HH:=hide (h (V1.alloc (.cells #[.pointer (some ⟨db,jb,none⟩)] 116)).drew ((k1.trans (Kept.alloc _ _ _)).trans (Kept.drew _ _)) dK);have ES:=SH k e1 e8 (.pointer (some ⟨db,jb,none⟩));clear e1 e8;clear h c0 hV1 k1 bx c2;go_enter Tryz.func25,Tryz.ntmps25
 go_upto_region 1 with fail
 rw [gD.out]
 go_upto_region 2 with fail
 go_region_held3 (λV=>V.cell? ⟨W.heap.size,0,none⟩=some (.string f)∧V.cell? ⟨W.heap.size,1,none⟩=some (.string t))
  (first | with_reducible exact eD | with_reducible exact dK | with_reducible exact oF)
  (first | (go_at_call 47;refine HT.out.mono ?_;rintro e w1 ⟨rfl,rfl⟩) | (go_at_call 151;refine HH.out.mono ?_;rintro e w9 ⟨rfl,iX⟩;have oF:=iX.out.2) | fail)
 all_goals
  exact zz212
theorem R7 {f t:ByteArray} (db jb:Nat) (W:World) (c0:W.cell? ⟨db,jb,none⟩=some (.int .i64 8)) (R:World->Prop)
  (h:∀V1,Kept (λ_=>True) W V1->(V1.cell? ⟨W.heap.size,0,none⟩=some (.string f)∧V1.cell? ⟨W.heap.size,1,none⟩=some (.string t))->Calls Tryz.prog 170 #[.agg #[.pointer (some ⟨db,jb,none⟩)],.iface 53 (.agg #[.string f,.string t])] V1 λe W'=>e=.returned (.tuple #[])∧Hid (R W'∧W'.cell? ⟨W.heap.size,0,none⟩=some (.string f)∧W'.cell? ⟨W.heap.size,1,none⟩=some (.string t))):
  Calls Tryz.prog 25 #[.agg #[.string f,.string t],.pointer (some ⟨db,jb,none⟩)] W λe W'=>e=.returned (.tuple #[])∧R W':=by
 obtain ⟨V1,hV1⟩:∃V1,W.alloc (.cells #[.string f,.string t] 53)=V1:=⟨_,rfl⟩
 have k1:Kept (λ_=>True) W V1:=by rw [<- hV1];exact Kept.alloc _ _ _
 have bx:Bx V1 W.heap.size [.string f,.string t]:=by rw [<- hV1];exact Bx.new _ _ _
 have d0:=bx.ae 0 _ rfl;have d1:=bx.ae 1 _ rfl;have c1:=(k1.cell (p:=⟨db,jb,none⟩) (block_lt_of_cell c0) trivial).trans c0;have c2:=((Kept.drew (λ_=>True) V1).cell (p:=⟨db,jb,none⟩) (block_lt_of_cell c1) trivial).trans c1;have HT:Hid (Calls Tryz.prog 47 #[.pointer (some ⟨db,jb,none⟩)] V1.drew λe W'=>e=.returned (.iface 125 (.agg #[.pointer (some ⟨db,jb,none⟩)]))∧W'=V1.drew.alloc (.cells #[.pointer (some ⟨db,jb,none⟩)] 116)):=C.XO ⟨db,jb,.nil⟩ V1.drew c2 (block_lt_of_cell c2);have gD:=hide hV1
 skip
 have eD:V1.drew.cell? ⟨W.heap.size,0,none⟩=some (.string f)∧V1.drew.cell? ⟨W.heap.size,1,none⟩=some (.string t):=by
  exact zz211
 have dK:(V1.alloc (.cells #[.pointer (some ⟨db,jb,none⟩)] 116)).drew.cell? ⟨W.heap.size,0,none⟩=some (.string f)∧(V1.alloc (.cells #[.pointer (some ⟨db,jb,none⟩)] 116)).drew.cell? ⟨W.heap.size,1,none⟩=some (.string t):=by
  exact zz121
 have HH:=hide (h (V1.alloc (.cells #[.pointer (some ⟨db,jb,none⟩)] 116)).drew ((k1.trans (Kept.alloc _ _ _)).trans (Kept.drew _ _)) dK);have ES:=aao (.pointer (some ⟨db,jb,none⟩));clear h c0 hV1 k1 bx c2;go_enter Tryz.func25,Tryz.ntmps25
 go_upto_region 1 with fail
 rw [gD.out]
 go_upto_region 2 with fail
 go_region_held3 (λV=>V.cell? ⟨W.heap.size,0,none⟩=some (.string f)∧V.cell? ⟨W.heap.size,1,none⟩=some (.string t))
  (first | with_reducible exact eD | with_reducible exact dK | with_reducible exact oF)
  (first | (go_at_call 47;refine HT.out.mono ?_;rintro e w1 ⟨rfl,rfl⟩) | (go_at_call 170;refine HH.out.mono ?_;rintro e w9 ⟨rfl,iX⟩;have oF:=iX.out.2) | fail)
 all_goals
  exact zz212
theorem Jj (f t:ByteArray) {nm:ByteArray} {mn:Value} {la na ka aa:Option Addr} {ln lc nn nc kn kc an ac:Nat} {lk nk kk ak:Fo} (hk:Fit E kk (rep (E 3) kn)) (ha:Fit E ak (rep (E 2) an)):
  dH f t true true (.v (.int .i64 8) (.v (.string nm) (.v mn (.s la ln lc lk (.s na nn nc nk (.s ka kn kc kk (.s aa an ac ak .nil)))))))=zX f t (.v (.int .i64 8) (.v (.string nm) (.v mn (.s la ln lc lk (.s na nn nc nk .nil))))) ka kn kc kk aa an ac ak (if nm.toList==f.toList then 1 else kn) (if nm.toList==f.toList then 0 else an):=by
 have e1:wW f t (.int .i64 8) (.string nm)=.string nm:=rfl;have e2:uF f (.int .i64 8) (fe nk)=true:=rfl;have e3:zO f (.int .i64 8) (.string nm)=!(nm.toList==f.toList):=rfl;rw [iN,dY,e1,e2,e3];unfold zX
 cases h:nm.toList==f.toList with
 | true=>simp [Fo.app,LY f t kn kk hk,lX,((jW f t _ ak an (Nat.le_refl _)).2 ha).1]
 | false=>simp [Fo.app,uX f t kn true true kk hk,FT f t an ak ha]
theorem Wy {f t:ByteArray} {nm:ByteArray} {k mn:Value} {la na ka aa:Option Addr} {ln lc nn nc kn kc an ac b o j i:Nat} {lk nk kk ak:Fo} {V:World} (hm:Mine V (zX f t (.v k (.v (.string nm) (.v mn (.s la ln lc lk (.s na nn nc nk .nil))))) ka kn kc kk aa an ac ak j i) b o):V.cell? ⟨b,o+1,none⟩=some (.string nm):=hm.ae 1 _ rfl
theorem R8 {f t:ByteArray} {m:Nat} (ih:ET f t m) {W:World} {b o:Nat} {nm:ByteArray} {mn:Value} {la na ka aa:Option Addr} {ln lc nn nc k' kc an ac:Nat} {lk nk kk ak:Fo} (hk:Fit E kk (rep (E 3) (k'+1))) (ha:Fit E ak (rep (E 2) an)) (sS:∀b o,∀e∈aS b o kk,oZ m e.x) (uY:∀b o,∀e∈aJ b o ak,oZ m e.x)
  (hbd:k'+1<=16777216∧an<=16777216∧ak.wt<=1048576) (hm:Mine W (.v (.int .i64 8) (.v (.string nm) (.v mn (.s la ln lc lk (.s na nn nc nk (.s ka (k'+1) kc kk (.s aa an ac ak .nil))))))) b o):
  Calls Tryz.prog 170 #[.agg #[.pointer (some ⟨b,o,none⟩)],.iface 53 (.agg #[.string f,.string t])] W λe W'=>e=.returned (.tuple #[])∧Mine W' (dH f t true true (.v (.int .i64 8) (.v (.string nm) (.v mn (.s la ln lc lk (.s na nn nc nk (.s ka (k'+1) kc kk (.s aa an ac ak .nil)))))))) b o∧aZ (Fo.v (.int .i64 8) (.v (.string nm) (.v mn (.s la ln lc lk (.s na nn nc nk (.s ka (k'+1) kc kk (.s aa an ac ak .nil))))))).ah b o 7 W W':=by
 rw [Jj f t hk ha];obtain ⟨P,Pp⟩:∃P,(Fo.v (.int .i64 8) (.v (.string nm) (.v mn (.s la ln lc lk (.s na nn nc nk .nil)))))=P:=⟨_,rfl⟩
 have hX0:(Fo.v (.int .i64 8) (.v (.string nm) (.v mn (.s la ln lc lk (.s na nn nc nk (.s ka (k'+1) kc kk (.s aa an ac ak .nil)))))))=zX f t P ka (k'+1) kc kk aa an ac ak 0 0:=by rw [<- Pp];unfold zX;rw [jo,lX];rfl
 have hNM:Hid (∀V j i,Mine V (zX f t P ka (k'+1) kc kk aa an ac ak j i) b o->V.cell? ⟨b,o+1,none⟩=some (.string nm)):=λV j i h=>by rw [<- Pp] at h;exact Wy h
 have hP:P.len=5:=by rw [<- Pp];rfl
 rw [hX0] at hm ⊢;rw [Pp];obtain ⟨k0,k1,rfl⟩:=Pb hk (Nat.succ_pos _) hm;obtain ⟨I,hI⟩:∃I,(zX f t P (some ⟨k0,k1,none⟩) (k'+1) kc kk aa an ac ak 0 0).ah=I:=⟨_,rfl⟩
 have hbl:=hm.lt.1;have hlt:∀d,d=b∨d∈I->d < W.heap.size:=λd hd=>by
  rcases hd with e | e
  .rw [e];exact hbl
  .exact hm.lt.2 d (by rw [hI];exact e)
 rw [hI];obtain ⟨V,hV⟩:∃V,((W.alloc (.cells #[.pointer (some ⟨b,o,none⟩)] 125)).alloc (.cells #[.iface 53 (.agg #[.string f,.string t])] 237)).drew=V:=⟨_,rfl⟩
 have kV:Kept (λ_=>True) W V:=by rw [<- hV];exact ((Kept.alloc _ _ _).trans (Kept.alloc _ _ _)).trans (Kept.drew _ _)
 have zV:V.heap.size=W.heap.size+2:=by rw [<- hV];simp
 have bc:Bx V W.heap.size [.pointer (some ⟨b,o,none⟩)]:=by
  exact zz180
 have bv:Bx V (W.heap.size+1) [.iface 53 (.agg #[.string f,.string t])]:=by
  rw [<- hV]
  have:=(Bx.new (W.alloc (.cells #[.pointer (some ⟨b,o,none⟩)] 125)) [.iface 53 (.agg #[.string f,.string t])] 237).kept (Kept.drew (λ_=>True) _) trivial
  rwa [World.size_alloc] at this
 have vc:=bc.ae 0 _ rfl;have vv:=bv.ae 0 _ rfl;have mV:=hm.keep kV (λ_ _=>trivial);have hnew:∀d,(d=W.heap.size∨d=W.heap.size+1)->d≠b∧d∉I:=λd hd=>⟨λe=>by have:=hlt d (.inl e);omega,λe=>by have:=hlt d (.inr e);omega⟩
 have De:Hid (∀w,Kept (λd=>d≠b∧d∉I) V w->w.cell? ⟨W.heap.size+1,0,none⟩=some (.iface 53 (.agg #[.string f,.string t]))∧w.cell? ⟨W.heap.size,0,none⟩=some (.pointer (some ⟨b,o,none⟩))):=λw k=>⟨(k.cell (p:=⟨W.heap.size+1,0,none⟩) (block_lt_of_cell vv) (hnew _ (.inr rfl))).trans vv,(k.cell (p:=⟨W.heap.size,0,none⟩) (block_lt_of_cell vc) (hnew _ (.inl rfl))).trans vc⟩
 have pz:Hid (∀V j i,Mine V (zX f t P (some ⟨k0,k1,none⟩) (k'+1) kc kk aa an ac ak j i) b o->V.cell? ⟨b,o+5,none⟩=some (.slice (some ⟨k0,k1,none⟩) (k'+1) kc)):=λV j i h=>(JU hP h).1
 obtain ⟨c,p,x,ek,h5,hx,hq,mx,fin⟩:=DY hk ha sS hP (Nat.succ_pos k') mV
 cases ek
 rw [hI,Nat.zero_mul,Nat.add_zero] at fin;rw [Nat.zero_mul,Nat.add_zero] at mx;have lZ:Hid (Calls Tryz.prog 25 #[.agg #[.string f,.string t],.pointer (some ⟨k0,k1,none⟩)] V λe W'=>e=.returned (.tuple #[])∧Hid (Mine W' (zX f t P (some ⟨k0,k1,none⟩) (k'+1) kc kk aa an ac ak 1 0) b o∧aZ I b o 7 V W')):=by
  refine (ih x V k0 k1 hx hq mx).mono ?_;rintro e W' ⟨rfl,z1,z2⟩;exact ⟨rfl,fin W' z1 z2⟩
 obtain ⟨J,hJ⟩:∃J,(if nm.toList==f.toList then 1 else k'+1)=J:=⟨_,rfl⟩
 obtain ⟨N,hN⟩:∃N,(if nm.toList==f.toList then 0 else an)=N:=⟨_,rfl⟩
 rw [hJ,hN];have iJ:Hid (∀w9:World,Mine w9 (zX f t P (some ⟨k0,k1,none⟩) (k'+1) kc kk aa an ac ak 1 0) b o->aZ I b o 7 V w9->Calls Tryz.prog 182 #[.agg #[.string f,.string t],.slice (some ⟨w9.heap.size,0,none⟩) 1 1,.func (.func 173) #[] #[.pointer (some ⟨W.heap.size,0,none⟩),.pointer (some ⟨W.heap.size+1,0,none⟩)]] (w9.alloc (.cells #[.string nm] 9)).drew λe W3=>e=.returned (.tuple #[])∧Hid (Mine W3 (zX f t P (some ⟨k0,k1,none⟩) (k'+1) kc kk aa an ac ak J N) b o∧aZ I b o 7 V W3)):=λw9 m9 k9=>by
  obtain ⟨V2,hV2⟩:∃V2,(w9.alloc (.cells #[.string nm] 9)).drew=V2:=⟨_,rfl⟩
  have ka:Kept (λ_=>True) w9 V2:=by rw [<- hV2];exact (Kept.alloc _ _ _).trans (Kept.drew _ _)
  have bs:Bx V2 w9.heap.size [.string nm]:=by rw [<- hV2];exact (Bx.new _ _ _).kept (Kept.drew (λ_=>True) _) trivial
  have Un:=m9.lt.1;rw [hV2];refine FD (L:=[nm]) rfl (by simp) (λ_=>⟨_,_,rfl,λi s hi=>?_⟩) (λht V' kq=>?_) (λht V' kq=>?_)
  .cases i with
   | zero=>simp at hi;rw [<- hi];exact bs.ae 0 _ rfl
   | succ i=>simp at hi
  .have he:(nm.toList==f.toList)=true:=by
    simp only [fV,List.any_cons,List.any_nil,Bool.or_false] at ht;rw [beq_iff_eq] at ht ⊢;exact ht.symm
   rw [he] at hJ hN;simp only [if_true] at hJ hN;rw [<- hJ,<- hN];exact ⟨m9.keep (ka.trans kq) (λ_ _=>trivial),k9.trans (aZ.of Un (ka.trans kq))⟩
  .have he:(nm.toList==f.toList)=false:=by
    simp only [fV,List.any_cons,List.any_nil,Bool.or_false] at ht;rw [beq_eq_false_iff_ne] at ht ⊢;exact λh=>ht h.symm
   rw [he] at hJ hN;simp only [Bool.false_eq_true,if_false] at hJ hN;rw [<- hJ,<- hN];have k3:Kept (λd=>d≠b∧d∉I) V V':=k9.kp.trans ((ka.trans kq).mono (λ_ _ _=>trivial));obtain ⟨y1,y2⟩:=De.out V' k3;refine (Sn ih hP hk ha sS uY hbd (m9.keep (ka.trans kq) (λ_ _=>trivial)) y2 y1 (λd hd=>by rw [hI];exact hnew d hd)).mono ?_;rintro e W3 ⟨rfl,z1,z2⟩;rw [hI] at z2;exact ⟨rfl,z1,k9.trans ((aZ.of Un (ka.trans kq)).trans z2)⟩
 have IK:Hid (aZ I b o 7 W V):=aZ.of hbl kV;have eD:V.cell? ⟨W.heap.size+1,0,none⟩=some (.iface 53 (.agg #[.string f,.string t]))∧V.cell? ⟨W.heap.size,0,none⟩=some (.pointer (some ⟨b,o,none⟩))∧V.cell? ⟨b,o+5,none⟩=some (.slice (some ⟨k0,k1,none⟩) (k'+1) kc):=⟨vv,vc,h5⟩
 have fU:Hid (∀w9,Mine w9 (zX f t P (some ⟨k0,k1,none⟩) (k'+1) kc kk aa an ac ak 1 0) b o->aZ I b o 7 V w9->w9.cell? ⟨W.heap.size+1,0,none⟩=some (.iface 53 (.agg #[.string f,.string t]))∧w9.cell? ⟨W.heap.size,0,none⟩=some (.pointer (some ⟨b,o,none⟩))∧w9.cell? ⟨b,o+5,none⟩=some (.slice (some ⟨k0,k1,none⟩) (k'+1) kc)):=λw9 m9 k9=>by
  obtain ⟨y1,y2⟩:=De.out w9 k9.kp;exact ⟨y1,y2,pz.out w9 _ _ m9⟩
 have SF:Hid (∀w9 j i,Mine w9 (zX f t P (some ⟨k0,k1,none⟩) (k'+1) kc kk aa an ac ak j i) b o->Kept (λd=>d≠b∧d∉I) V w9->w9.cell? ⟨W.heap.size+1,0,none⟩=some (.iface 53 (.agg #[.string f,.string t]))∧w9.cell? ⟨W.heap.size,0,none⟩=some (.pointer (some ⟨b,o,none⟩))∧w9.cell? ⟨b,o+1,none⟩=some (.string nm)):=λw9 j i m9 k9=>by
  obtain ⟨y1,y2⟩:=De.out w9 k9;exact ⟨y1,y2,hNM.out w9 _ _ m9⟩
 have EW:=vM f t;have EX:=vN f t;have mer:=xh f t;have nar:=xm f t;obtain ⟨⟨cp1,cp2⟩,-,-⟩:=JV hm;simp only [maxLen] at cp2;have hki:(0:Int) < ((k'+1:Nat):Int):=by omega
 have abt:(0:Int) < (k':Int)+1:=by omega
 have hkn2:0 < k'+1:=by omega
 obtain ⟨hb1,hb2,hb3⟩:=hbd;clear ih hk ha sS uY hm Pp hX0 hP hI hbl hlt kV zV bc bv vc vv mV hnew h5 hx hq mx fin hJ hN hNM De pz;subst hV;go_enter Tryz.func170,Tryz.ntmps170
 go_upto_region 1 with fail
 go_region_held3 (λV=>V.cell? ⟨W.heap.size+1,0,none⟩=some (.iface 53 (.agg #[.string f,.string t]))∧V.cell? ⟨W.heap.size,0,none⟩=some (.pointer (some ⟨b,o,none⟩))∧V.cell? ⟨b,o+5,none⟩=some (.slice (some ⟨k0,k1,none⟩) (k'+1) kc))
  (first | with_reducible exact eD | with_reducible exact dK)
  (first | (go_at_call 25;refine lZ.out.mono ?_;rintro e w9 ⟨rfl,iX⟩;have dK:=fU.out w9 iX.out.1 iX.out.2) | fail)
 all_goals
  have mK:=hide (iJ.out w9 iX.out.1 iX.out.2);have kd0:=SF.out w9 1 0 iX.out.1 iX.out.2.kp;have kd1:=SF.out w9.drew 1 0 (iX.out.1.keep (Kept.drew (λ_=>True) _) (λ_ _=>trivial)) (iX.out.2.kp.trans (Kept.drew _ _));have kd2:=SF.out (w9.alloc (.cells #[.string nm] 9)).drew 1 0 (iX.out.1.keep ((Kept.alloc (λ_=>True) _ _).trans (Kept.drew (λ_=>True) _)) (λ_ _=>trivial)) ((iX.out.2.kp.trans (Kept.alloc _ _ _)).trans (Kept.drew _ _));clear iJ lZ eD dK fU
  go_upto_region 2 with fail
  go_region_held3 (λV=>V.cell? ⟨W.heap.size+1,0,none⟩=some (.iface 53 (.agg #[.string f,.string t]))∧V.cell? ⟨W.heap.size,0,none⟩=some (.pointer (some ⟨b,o,none⟩))∧V.cell? ⟨b,o+1,none⟩=some (.string nm))
   (first | with_reducible exact kd1 | with_reducible exact kd2 | with_reducible exact kd3 | with_reducible exact kd0)
   (first | (go_at_call 182;refine mK.out.mono ?_;rintro e w8 ⟨rfl,KD⟩;have kd3:=SF.out w8 J N KD.out.1 KD.out.2.kp) | fail)
  all_goals
   go_end0;exact ⟨rfl,KD.out.1,IK.out.trans KD.out.2⟩
theorem GA {m:Nat}:∀(n:Nat) (F:Fo),Fit E F (rep (E 3) n)->F.size<=m->F.wt<=1048576->(C.di F).good->∀b o,∀e∈aS b o F,oZ m e.x
 | 0,F,h,_,_,_=>λb o e he=>by rw [ai h] at he;simp [aS] at he
 | n+1,F,h,h1,h2,h3=>λb o e he=>by
  obtain ⟨x,q,rfl,hx,hq,-⟩:=Fit.split (fs:=E 3) (gs:=rep (E 3) n) h;obtain ⟨g1,g2⟩:=(C.Ab hx q).1 h3;rw [Fo.aM] at h1;rw [Fo.dN] at h2;have ih:=GA (m:=m) n q hq (by omega) (by omega) g2 b (o+7);have hit:aS b o (x.app q)=⟨b,o,x⟩::aS b (o+7) q:=by
   exact zz195
  rw [hit] at he;rcases List.mem_cons.1 he with e1 | e1
  .rw [e1]
   exact ⟨by show x.size<=m;omega,by show x.wt<=_;omega,g1⟩
  .exact ih e e1
theorem GD {m:Nat}:∀(n:Nat) (F:Fo),Fit E F (rep (E 2) n)->F.size<=m->F.wt<=1048576->(C.aV F).good->∀b o,∀e∈aJ b o F,oZ m e.x
 | 0,F,h,_,_,_=>λb o e he=>by rw [ai h] at he;simp [aJ] at he
 | n+1,F,h,h1,h2,h3=>λb o e he=>by
  obtain ⟨x,q,rfl,hx,hq,-⟩:=Fit.split (fs:=E 2) (gs:=rep (E 2) n) h;obtain ⟨au,ca,cn,cc,ck,y,hxe,hy,hg⟩:=C.Ac hx q;obtain ⟨g1,g2⟩:=hg.1 h3;rw [Fo.aM] at h1;rw [Fo.dN] at h2;have ih:=GD (m:=m) n q hq (by omega) (by omega) g2 b (o+9);have hit:aJ b o (x.app q)=⟨b,o+2,y⟩::aJ b (o+9) q:=by
   rw [hxe];obtain ⟨k,nm,mn,la,ln,lc,lk,na,nn,nc,nk,ka,kn,kc,kk,aa,an,ac,ak,rfl,-⟩:=ag hy;simp only [Fo.app,aJ]
  rw [hit] at he;rw [hxe] at h1 h2;simp only [Fo.size,Fo.wt] at h1 h2;rcases List.mem_cons.1 he with e1 | e1
  .rw [e1]
   exact ⟨by show y.size<=m;omega,by show y.wt<=_;omega,g1⟩
  .exact ih e e1
theorem Mine.name {V V1:World} {k nm:Value} {r:Fo} {b o:Nat} (v:Value) (h:Mine V (.v k (.v nm r)) b o) (kp:Kept (λ_=>True) V V1):Mine (V1.setCell ⟨b,o+1,none⟩ v) (.v k (.v v r)) b o∧aZ (Fo.v k (.v nm r)).ah b o 7 V (V1.setCell ⟨b,o+1,none⟩ v):=by
 have h1:=h.keep kp (λ_ _=>trivial);have hn:=(List.nodup_cons.1 h.nd).1;have k2:Kept (λd=>d≠b) V1 (V1.setCell ⟨b,o+1,none⟩ v):=Kept.setCell _ _ _ _ (by simp);have c1:V1.cell? ⟨b,o+1,none⟩=some nm:=h1.ae 1 _ rfl;have hs:=qD (v:=v) c1;have TH:(Fo.v k (.v v r)).ah=(Fo.v k (.v nm r)).ah:=rfl;refine ⟨⟨λi u hu=>?_,?_,h1.nd,⟨Nat.lt_of_lt_of_le h1.lt.1 k2.size,λc hc=>Nat.lt_of_lt_of_le (h1.lt.2 c hc) k2.size⟩,λc hc j=>(World.frozen?_setCell _ _ _ _).trans (h1.lv c hc j)⟩,
  ⟨(kp.mono (λ_ _ _=>trivial)).trans (k2.mono (λ_ _ hd=>hd.1)),λj hj=>?_,λc j hc=>(World.frozen?_setCell _ _ _ _).trans (kp.frozen (p:=⟨c,j,none⟩) hc trivial)⟩⟩
 .rw [hs]
  by_cases e:i=1
  .subst e
   rw [if_pos rfl]
   have:(Fo.v k (.v v r)).vals[1]? =some v:=rfl
   rw [this] at hu;exact hu
  .rw [if_neg (by omega)]
   refine h1.ae i u ?_;rw [<- hu]
   match i,e with
   | 0,_=>rfl
   | i+2,_=>rfl
 .exact h1.subs.kept k2 (λc hc=>⟨λe=>(List.nodup_cons.1 h1.nd).1 (by rw [<- e];exact hc),h1.lt.2 c hc⟩)
 .rw [hs,if_neg (by omega)]
  exact kp.cell (p:=⟨b,j,none⟩) h.lt.1 trivial
theorem OD (f t:ByteArray) (m:Nat) (ih:ET f t m):ET f t (m+1):=by
 intro x V b o hx ⟨hm,hw,hg⟩ hM;obtain ⟨k,nm,mn,la,ln,lc,lk,na,nn,nc,nk,ka,kn,kc,kk,aa,an,ac,ak,rfl,-,hnm,h3,h4,h5,h6⟩:=ag hx;rw [C.eT,C.dB] at hg;obtain ⟨mU,Eb,hga,-⟩:=hg;rw [C.pJ kn kk h5] at mU;simp only [Fo.size] at hm;simp only [Fo.wt,bU] at hw;have c0:V.cell? ⟨b,o,none⟩=some (.int .i64 k):=hM.ae 0 _ rfl;have c1:V.cell? ⟨b,o+1,none⟩=some (.string nm):=hM.ae 1 _ rfl;have sS:=GA (m:=m) kn kk h5 (by omega) (by omega) Eb;have uY:=GD (m:=m) an ak h6 (by omega) (by omega) hga;have hnew:V.heap.size≠b∧V.heap.size∉(Fo.v (.int .i64 k) (.v (.string nm) (.v (.bool mn) (.s la ln lc lk (.s na nn nc nk (.s ka kn kc kk (.s aa an ac ak .nil))))))).ah:=⟨λe=>by have:=hM.lt.1;omega,λe=>by have:=hM.lt.2 _ e;omega⟩
 by_cases e1:k=1
 .subst e1
  obtain ⟨-,-,hal,-,-,hk0⟩:=(C.Ct _ _ _ _ _ _ _ _).1 mU;subst hk0;rw [C.kz an ak h6] at hal;subst hal;rw [ai h5,ai h6] at hM ⊢;have hr:dH f t true true (.v (.int .i64 1) (.v (.string nm) (.v (.bool mn) (.s la ln lc lk (.s na nn nc nk (.s ka 0 kc .nil (.s aa 0 ac .nil .nil)))))))=(.v (.int .i64 1) (.v (.string (Cu f t nm)) (.v (.bool mn) (.s la ln lc lk (.s na nn nc nk (.s ka 0 kc .nil (.s aa 0 ac .nil .nil))))))):=by
   rw [iN,dY,dY,gI];rfl
  rw [hr];refine (OE c0 c1 (hM.lv b (.inl rfl) _)).mono ?_;rintro e V' ⟨rfl,V1,kp,rfl⟩;refine ⟨rfl,?_⟩;unfold Cu
  cases h:nm.toList==f.toList with
  | true=>simpa using hM.name (.string t) kp
  | false=>simpa using (show Mine V1 _ b o∧aZ _ b o 7 V V1 from ⟨hM.keep kp (λ_ _=>trivial),aZ.of hM.lt.1 kp⟩)
 by_cases e8:k=8
 .subst e8
  have hsp:=(C.Cv _ _ _ _ _ _ _ _).1 mU;obtain ⟨k',rfl⟩:∃k',kn=k'+1:=⟨kn - 1,by rcases hsp.2.2.2.1 with h | h <;> omega⟩
  exact R7 b o V c0 _ (λV1 kp ⟨d0,d1⟩=>(R8 ih h5 h6 sS uY ⟨by omega,by omega,by omega⟩ (hM.keep kp (λ_ _=>trivial))).mono (by
   rintro e W' ⟨rfl,z1,z2⟩;exact ⟨rfl,⟨z1,(aZ.of hM.lt.1 kp).trans z2⟩,(z2.kp.cell (p:=⟨V.heap.size,0,none⟩) (block_lt_of_cell d0) hnew).trans d0,(z2.kp.cell (p:=⟨V.heap.size,1,none⟩) (block_lt_of_cell d1) hnew).trans d1⟩))
 .have hal:an=0:=by
   rcases mU.2.1 with h | h
   .exact absurd h e8
   .rw [C.kz an ak h6] at h;exact h
  subst hal;have hak:=ai h6;subst hak;obtain ⟨-,m2,-⟩:=Mine.split (x:=.v (.int .i64 k) (.v (.string nm) (.v (.bool mn) (.s la ln lc lk .nil)))) (q:=.s na nn nc nk (.s ka kn kc kk (.s aa 0 ac .nil .nil))) hM;have ht:=λV1 (kp:Kept (λ_=>True) V V1)=>(m2.keep kp (λ_ _=>trivial)).fe h4
  exact VL b o k e1 e8 V c0 _ (λV1 kp ⟨d0,d1⟩=>(Rq ih rfl e1 e8 (by rw [Jk];exact mU.2.2.1) h5 sS (by omega) (ht V1 kp).2 (by omega) (ht V1 kp).1 (hM.keep kp (λ_ _=>trivial))).mono (by
   rintro e W' ⟨rfl,z1,z2⟩;exact ⟨rfl,⟨z1,(aZ.of hM.lt.1 kp).trans z2⟩,(z2.kp.cell (p:=⟨V.heap.size,0,none⟩) (block_lt_of_cell d0) hnew).trans d0,(z2.kp.cell (p:=⟨V.heap.size,1,none⟩) (block_lt_of_cell d1) hnew).trans d1⟩))
theorem JL (f t:ByteArray):∀m,ET f t m
 | 0=>λx _ _ _ hx hq _=>absurd (Fit.len hx) (by have:=x.fJ;have:=hq.1;show ¬x.len=7;omega)
 | m+1=>OD f t m (JL f t m)
theorem uW:∀{F G:Fo},G.aG F->fe G=fe F
 | .nil,G,h=>by rw [Fo.cB h]
 | .v x r,G,h=>by
  obtain ⟨q,rfl,h2⟩:=Fo.aP h
  cases x <;> simp [fe,uW h2]
 | .s a n c ks r,G,h=>by
  obtain ⟨a',c',js,q,rfl,h2,h3⟩:=Fo.aI h;rfl
theorem Qw (f t:ByteArray):∀(m:Nat) (F G:Fo) (n:Nat),F.size<=m->G.aG F->
  (Fit E F (rep (E 3) n)->∀x y,(dH f t x y G).aG (dH f t x y F))∧(Fit E F (rep (E 2) n)->∀x,(jZ f t x G).aG (jZ f t x F)):=by
 intro m
 induction m with
 | zero=>
  intro F G n h hs
  cases F with
  | nil=>rw [Fo.cB hs];exact ⟨λ_ x y=>Fo.aG.refl _,λ_ x=>Fo.aG.refl _⟩
  | v x r=>simp only [Fo.size] at h;omega
  | s a n c ks r=>simp only [Fo.size] at h;omega
 | succ m ih=>
  intro F G n h hs
  cases n with
  | zero=>exact ⟨λhf=>by rw [ai hf] at hs ⊢;rw [Fo.cB hs];exact λx y=>Fo.aG.refl _,λhf=>by rw [ai hf] at hs ⊢;rw [Fo.cB hs];exact λx=>Fo.aG.refl _⟩
  | succ n=>
   refine ⟨λhf=>?_,λhf=>?_⟩
   .obtain ⟨x,q,rfl,hx,hq,hl⟩:=Fit.split (fs:=E 3) (gs:=rep (E 3) n) hf
    obtain ⟨k,nm,mn,la,ln,lc,lk,na,nn,nc,nk,ka,kn,kc,kk,aa,an,ac,ak,rfl,-,-,h3,h4,h5,h6⟩:=ag hx;simp only [Fo.app] at hs h ⊢;obtain ⟨_,rfl,hs1⟩:=Fo.aP hs;obtain ⟨_,rfl,hs2⟩:=Fo.aP hs1;obtain ⟨_,rfl,hs3⟩:=Fo.aP hs2;obtain ⟨_,_,lk',_,rfl,s3,hs4⟩:=Fo.aI hs3;obtain ⟨_,_,Bh,_,rfl,s4,hs5⟩:=Fo.aI hs4;obtain ⟨_,_,xU,_,rfl,s5,hs6⟩:=Fo.aI hs5;obtain ⟨_,_,bG,_,rfl,s6,hs7⟩:=Fo.aI hs6;simp only [Fo.size] at h;have i1:=(ih kk xU kn (by omega) s5).1 h5;have i2:=(ih ak bG an (by omega) s6).2 h6;have i3:=(ih q _ n (by omega) hs7).1 hq;intro x y;rw [iN,iN,uW s4];exact ⟨rfl,rfl,rfl,rfl,s3,rfl,s4,rfl,i1 _ _,rfl,i2 _,i3 _ _⟩
   .obtain ⟨x,q,rfl,hx,hq,hl⟩:=Fit.split (fs:=E 2) (gs:=rep (E 2) n) hf
    obtain ⟨au,ca,cn,cc,ck,y,rfl,-,-,hy⟩:=aK hx;obtain ⟨k,nm,mn,la,ln,lc,lk,na,nn,nc,nk,ka,kn,kc,kk,aa,an,ac,ak,rfl,-,-,h3,h4,h5,h6⟩:=ag hy;simp only [Fo.app] at hs h ⊢;obtain ⟨_,rfl,hs1⟩:=Fo.aP hs;obtain ⟨_,_,ck',_,rfl,s0,hs2⟩:=Fo.aI hs1;obtain ⟨_,rfl,hs3⟩:=Fo.aP hs2;obtain ⟨_,rfl,hs4⟩:=Fo.aP hs3;obtain ⟨_,rfl,hs5⟩:=Fo.aP hs4;obtain ⟨_,_,lk',_,rfl,s3,hs6⟩:=Fo.aI hs5;obtain ⟨_,_,Bh,_,rfl,s4,hs7⟩:=Fo.aI hs6;obtain ⟨_,_,xU,_,rfl,s5,ug⟩:=Fo.aI hs7;obtain ⟨_,_,bG,_,rfl,s6,hs9⟩:=Fo.aI ug;simp only [Fo.size] at h;have i1:=(ih kk xU kn (by omega) s5).1 h5;have i2:=(ih ak bG an (by omega) s6).2 h6;have i3:=(ih q _ n (by omega) hs9).2 hq;intro x;rw [lU,lU,uW s4,uW s0];exact ⟨rfl,rfl,s0,rfl,rfl,rfl,rfl,s3,rfl,s4,rfl,i1 _ _,rfl,i2 _,i3 _⟩
theorem yM (f t:ByteArray) {F G:Fo} (hf:Fit E F (E 3)) (h:G.aG F):(dH f t true true G).aG (dH f t true true F):=
 (Qw f t _ F G 1 (Nat.le_refl _) h).1 (show Fit E F (rep (E 3) 1) from hf) true true
open Classical in
noncomputable def nH (f t:ByteArray) (F:Fo):Fo:=if C.rE (C.di F)∧¬t=⟨#[]⟩ then dH f t true true F else F
end Go.Proofs.YthfnobboalhihaaGreat
