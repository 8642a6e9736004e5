import Derived.Test.YthfnobboalhihaaGreatXp
import Derived.Laws.EntriesVeiled
set_option maxHeartbeats 8000000
set_option maxRecDepth 100000
namespace Go.Proofs.YthfnobboalhihaaGreat
open Go.RowKit Go.Joins
def NQ (O:Nat->Nat) (W:World) (lo G M0:Nat) (KK AA:List (Nat×Nat)) (mk sk ma sa:Value) (tk ta:Nat) (ND:List Nd) (rb k:Nat) (w:World):Prop:=
 ∃LS lv nv PQ,NP O W w lo G M0 KK AA mk sk ma sa tk ta ND k LS lv nv PQ∧∃(i:Nat) (x:Nat×Nat),LS[i]? =some x∧KX O KK (some ⟨rb,0,none⟩) 1 x
section
variable {O:Nat->Nat} {W A7 w:World} {lo G wb M0:Nat} {KK AA:List (Nat×Nat)} {KR AR:List Fo} {mk sk ma sa:Value} {tk ta rb k tot:Nat}
theorem NQ.next (h:NQ O W lo G M0 KK AA mk sk ma sa tk ta (bY O KK KR++dw O AA AR) rb k w) (gi:GI O A7 (SB A7 lo G wb) KK AA KR AR [] [] [] 0 tot) (hk:Below W.heap.size W A7) (hlo:lo=W.heap.size+5) (ht:tot<=4000000) {d:Nd} (hd:(bY O KK KR++dw O AA AR)[k]? =some d):
  Calls Tryz.prog 71 #[.pointer (some ⟨G,0,none⟩),.pointer (some ⟨d.b,d.o,none⟩)] w λe w'=>(∃v,e=.returned v)∧NQ O W lo G M0 KK AA mk sk ma sa tk ta (bY O KK KR++dw O AA AR) rb (k+1) w':=by
 obtain ⟨LS,lv,nv,PQ,np,i,x,h1,h2⟩:=h;obtain ⟨n1,n2,n3⟩:=gi.node hk hlo (List.mem_of_getElem? hd);refine (np.step (gi.Ij ht) (by have:=gi.bound.1;omega) hd n1 n2 (n3.elim (λe=>.inr (.inr (.inr (.inr (.inl e))))) (λe=>.inr (.inr (.inr (.inr (.inr e))))))).mono ?_;rintro e w' ⟨hv,U7,lv',zN,U8,g1,L2,rfl⟩;exact ⟨hv,_,lv',zN,U8,g1,i,x,pU h1,h2⟩
theorem NQ.kid (h:NQ O W lo G M0 KK AA mk sk ma sa tk ta (bY O KK KR++dw O AA AR) rb k w) (gi:GI O A7 (SB A7 lo G wb) KK AA KR AR [] [] [] 0 tot) (hk:Below W.heap.size W A7) (hlo:lo=W.heap.size+5) (ht:tot<=4000000) (hl:k < K.off KK KK.length):
  ∃b o,w.cell? ⟨tk,k,none⟩=some (.pointer (some ⟨b,o,none⟩))∧Calls Tryz.prog 71 #[.pointer (some ⟨G,0,none⟩),.pointer (some ⟨b,o,none⟩)] w λe w'=>(∃v,e=.returned v)∧NQ O W lo G M0 KK AA mk sk ma sa tk ta (bY O KK KR++dw O AA AR) rb (k+1) w':=by
 obtain ⟨d,hd⟩:∃d,(bY O KK KR)[k]? =some d:=⟨_,List.getElem?_eq_getElem (by rw [gi.qV];exact hl)⟩
 obtain ⟨i,e,r,j,h1,h2,h3,h4,h5,h6⟩:=gi.eP hd;obtain ⟨LS,lv,nv,PQ,np,hr⟩:=id h;refine ⟨d.b,d.o,?_,h.next gi hk hlo ht (pU hd)⟩;rcases np.pn.z.tK.full i e j h1 h3 with e1 | e1
 .cases e1
 .rw [<- h4,<- h6] at e1
  exact e1
theorem NQ.alt (h:NQ O W lo G M0 KK AA mk sk ma sa tk ta (bY O KK KR++dw O AA AR) rb (K.off KK KK.length+k) w) (gi:GI O A7 (SB A7 lo G wb) KK AA KR AR [] [] [] 0 tot) (hk:Below W.heap.size W A7) (hlo:lo=W.heap.size+5) (ht:tot<=4000000) (hl:k < A.off AA AA.length):
  ∃b o,w.cell? ⟨ta,k,none⟩=some (.pointer (some ⟨b,o,none⟩))∧Calls Tryz.prog 71 #[.pointer (some ⟨G,0,none⟩),.pointer (some ⟨b,o+2,none⟩)] w λe w'=>(∃v,e=.returned v)∧NQ O W lo G M0 KK AA mk sk ma sa tk ta (bY O KK KR++dw O AA AR) rb (K.off KK KK.length+(k+1)) w':=by
 obtain ⟨d,hd⟩:∃d,(dw O AA AR)[k]? =some d:=⟨_,List.getElem?_eq_getElem (by rw [gi.EP];exact hl)⟩
 obtain ⟨i,e,r,j,h1,h2,h3,h4,h5,h6⟩:=gi.fC hd;obtain ⟨LS,lv,nv,PQ,np,hr⟩:=id h;have hdd:(bY O KK KR++dw O AA AR)[K.off KK KK.length+k]? =some d:=by
  rw [<- gi.qV,List.getElem?_append_right (by omega),Nat.add_sub_cancel_left];exact hd
 have hc:=h.next gi hk hlo ht hdd
 have e2:d.b=e.1∧d.o=O e.1+j * 9+2:=⟨congrArg Prod.fst h6,congrArg Prod.snd h6⟩
 refine ⟨e.1,O e.1+j * 9,?_,?_⟩
 .rcases np.pn.z.tA.full i e j h1 h3 with e1 | e1
  .cases e1
  .rw [<- h4] at e1
   exact e1
 .rw [<- e2.2,<- e2.1]
  exact hc
theorem NQ.c2 (h:NQ O W lo G M0 KK AA mk sk ma sa tk ta (bY O KK KR++dw O AA AR) rb k w):w.cell? ⟨G,2,none⟩=some (.slice (some ⟨tk,0,none⟩) (K.off KK KK.length) (K.off KK KK.length))∧w.cell? ⟨G,6,none⟩=some (.slice (some ⟨ta,0,none⟩) (A.off AA AA.length) (A.off AA AA.length)):=by
 obtain ⟨LS,lv,nv,PQ,np,hr⟩:=h;exact ⟨np.pn.z.c2,np.pn.z.c6⟩
theorem NQ.fin {F:Fo} (h:NQ O W lo G M0 KK AA mk sk ma sa tk ta (bY O KK KR++dw O AA AR) rb (K.off KK KK.length+A.off AA AA.length) w) (gi:GI O A7 (SB A7 lo G wb) KK AA KR AR [] [] [] 0 (fH F)) (hr:∃i:Nat,KK[i]? =some (rb,1)∧KR[i]? =some F) (hO:O rb=0) (SE:Below W.heap.size W A7) (hlo:lo=W.heap.size+5):GE W w rb F G:=by
 obtain ⟨LS,lv,nv,PQ,np,hx⟩:=h;refine ⟨O,A7,lo,wb,M0,KK,AA,KR,AR,mk,sk,ma,sa,tk,ta,LS,lv,nv,PQ,gi,?_,hr,hx,hO,SE,hlo⟩;have e:(bY O KK KR++dw O AA AR).length=K.off KK KK.length+A.off AA AA.length:=by rw [List.length_append,gi.qV,gi.EP]
 rw [e];exact np
end
theorem zz104 {P:Prop} (h:P:=by
 have CC:=hide cc;clear cc hnq;go_wp2_with (go_at_call 71;refine CC.out.mono ?_;rintro e V4 ⟨⟨v4,rfl⟩,aC⟩;have N4:=hide aC;clear aC);go_roundw
 case rel=>exact ⟨k+1,by go_num,by omega,N4⟩
 case measure=>simp [intOf];omega):P:=h
open Go.RowKit Go.Joins Go.MapKept
theorem LM.Zo {w:World} {M:Nat} (h:LM w M []) (x:Nat×Nat):∃w',(Instr.mapUpdate 132 (.map (some M)) (lk x) (.int .i64 0)).run Tryz.prog w=.ok () w'∧LM w' M [x]∧w.grownBy w' (some M)∧w'.heap.size=w.heap.size:=by
 obtain ⟨es,c,h1,h2⟩:=h;have hf:=qA (w:=w) x es.toList [] 0 h2;rw [(mF (w:=w) x es.toList [] 0 0 h2).1 (by simp)] at hf;refine ⟨ChangeMaps.setBlock w M (.map (es.push {key:=lk x,val:=.int .i64 0,born:=c}) (c+1)),?_,?_,?_,by simp [ChangeMaps.setBlock]⟩
 .unfold Instr.mapUpdate
  exact zz160
 .refine ⟨_,_,ChangeMaps.heap_setBlock_same h1 _,?_⟩
  simp [h2,pW]
 .exact ⟨rfl,rfl,rfl,by simp [ChangeMaps.setBlock],λi _ hi=>ChangeMaps.heap_setBlock_other h1 _ (λe=>hi (by rw [e]))⟩
theorem GX.fbc {O:Nat->Nat} {RG:Nat->Option Value} {W0:World} {S:Nat->Prop} {lo G wb fb:Nat} {V:World} {KK AA:List (Nat×Nat)} {KR AR:List Fo} {Qd X:List Nd} {R:List Nat} {c tot:Nat} (h:GX O RG W0 S lo G wb fb V KK AA KR AR Qd X R c tot):V.cell? ⟨fb,0,none⟩=some (pQ wb):=by
 obtain ⟨⟨mk,sk,ma,sa,wv,st⟩,-⟩:=h;exact st.f.ae 0 _ rfl
theorem GX.wbc {O:Nat->Nat} {RG:Nat->Option Value} {W0:World} {S:Nat->Prop} {lo G wb fb:Nat} {V:World} {KK AA:List (Nat×Nat)} {KR AR:List Fo} {X:List Nd} {R:List Nat} {c tot:Nat} (h:GX O RG W0 S lo G wb fb V KK AA KR AR [] X R c tot):∃a cap,V.cell? ⟨wb,0,none⟩=some (.slice a 0 cap):=by
 obtain ⟨⟨mk,sk,ma,sa,wv,st⟩,-⟩:=h;obtain ⟨a,cap,e⟩:=kU st.q;have e':wv=.slice a 0 cap:=e;exact ⟨a,cap,by rw [<- e'];exact st.w.ae 0 _ rfl⟩
theorem VC (W:World):∃A3 A7,(Instr.mapUpdate 132 (.map (some (W.heap.size+1))) (.agg #[.int .i64 0,.int .i64 0]) (.int .i64 0)).run Tryz.prog ((W.alloc (.cells #[.int .i64 0,.int .i64 0] 130)).alloc (.map #[] 0))=.ok () A3∧A3.heap.size=W.heap.size+2∧
  A7=(((A3.alloc (.cells #[.map none,.slice none 0 0,.slice none 0 0,.slice none 0 0,.map none,.slice none 0 0,.slice none 0 0,.slice none 0 0,.slice none 0 0,.slice (some ⟨W.heap.size,0,none⟩) 1 1,.map (some (W.heap.size+1))] 142)).alloc (.cells #[.slice none 0 0] 113)).alloc (.cells #[pQ (W.heap.size+3)] 54))∧WB W A7 (W.heap.size+2) (W.heap.size+3) (W.heap.size+4) (W.heap.size+1):=by
 obtain ⟨A2,hA2⟩:∃A2,(W.alloc (.cells #[.int .i64 0,.int .i64 0] 130)).alloc (.map #[] 0)=A2:=⟨_,rfl⟩
 have z2:A2.heap.size=W.heap.size+2:=by rw [<- hA2];simp
 have lm2:LM A2 (W.heap.size+1) []:=by
  rw [<- hA2];refine ⟨#[],0,?_,rfl⟩
  have:=(MapKept.heap_alloc (W.alloc (.cells #[.int .i64 0,.int .i64 0] 130)) (.map #[] 0)).1
  simpa using this
 have kb2:Below W.heap.size W A2:=by
  rw [<- hA2];exact (below_alloc1 _ _).trans ((below_alloc1 _ _).mono (by simp))
 have Ot:A2.heap[W.heap.size]? =some (.cells #[.int .i64 0,.int .i64 0] 130):=by
  rw [<- hA2];have k:=Kept.alloc (λ_=>True) (W.alloc (.cells #[.int .i64 0,.int .i64 0] 130)) (.map #[] 0);rw [k.block W.heap.size (by simp) trivial];exact bH _ _
 obtain ⟨A3,hr,lm3,g3,z3⟩:=lm2.Zo (0,0);rw [z2] at z3;have k3:Kept (λc=>c≠W.heap.size+1) A2 A3:=Kept.grown g3 (λc hc hx=>hx (Option.some.inj hc).symm);have kb3:Below W.heap.size W A3:=Below.kept kb2 k3 (λc hc=>by show c≠_;omega) (Nat.le_refl _);have bl3:A3.heap[W.heap.size]? =some (.cells #[.int .i64 0,.int .i64 0] 130):=(k3.block _ (by omega) (by show W.heap.size≠_;omega)).trans Ot;obtain ⟨A4,rC⟩:∃A4,A3.alloc (.cells #[.map none,.slice none 0 0,.slice none 0 0,.slice none 0 0,.map none,.slice none 0 0,.slice none 0 0,.slice none 0 0,.slice none 0 0,.slice (some ⟨W.heap.size,0,none⟩) 1 1,.map (some (W.heap.size+1))] 142)=A4:=⟨_,rfl⟩
 have k4:Kept (λ_=>True) A3 A4:=by rw [<- rC];exact Kept.alloc _ _ _
 have z4:A4.heap.size=W.heap.size+3:=by rw [<- rC];simp [z3]
 have b4:Bx A4 (W.heap.size+2) [.map none,.slice none 0 0,.slice none 0 0,.slice none 0 0,.map none,.slice none 0 0,.slice none 0 0,.slice none 0 0,.slice none 0 0,.slice (some ⟨W.heap.size,0,none⟩) 1 1,.map (some (W.heap.size+1))]:=by rw [<- rC,<- z3];exact Bx.new _ _ _
 obtain ⟨A5,RN⟩:∃A5,A4.alloc (.cells #[.slice none 0 0] 113)=A5:=⟨_,rfl⟩
 have k5:Kept (λ_=>True) A4 A5:=by rw [<- RN];exact Kept.alloc _ _ _
 have z5:A5.heap.size=W.heap.size+4:=by rw [<- RN];simp [z4]
 have b5:Bx A5 (W.heap.size+3) [.slice none 0 0]:=by rw [<- RN,<- z4];exact Bx.new _ _ _
 obtain ⟨A6,RO⟩:∃A6,A5.alloc (.cells #[pQ (W.heap.size+3)] 54)=A6:=⟨_,rfl⟩
 have k6:Kept (λ_=>True) A5 A6:=by rw [<- RO];exact Kept.alloc _ _ _
 have z6:A6.heap.size=W.heap.size+5:=by rw [<- RO];simp [z5]
 have b6:Bx A6 (W.heap.size+4) [pQ (W.heap.size+3)]:=by rw [<- RO,<- z5];exact Bx.new _ _ _
 have kk:=(k4.trans k5).trans k6;refine ⟨A3,A6,by rw [hA2];exact hr,z3,by rw [rC,RN,RO],Below.kept kb3 kk (λ_ _=>trivial) (Nat.le_refl _),z6,rfl,rfl,rfl,rfl,(b4.kept k5 trivial).kept k6 trivial,b5.kept k6 trivial,b6,lm3.kept kk trivial,(kk.block _ (by omega) trivial).trans bl3⟩
theorem Lc {W:World} {rb rr:Nat} {F:Fo} (h:RT W rb F) (c0:W.cell? ⟨rr,0,none⟩=some (.slice (some ⟨rb,0,none⟩) 1 1)):Calls Tryz.prog 48 #[.slice (some ⟨rr,0,none⟩) 1 1] W λe W'=>∃G,e=.returned (.pointer (some ⟨G,0,none⟩))∧Hid (GE W W' rb F G):=by
 obtain ⟨A3,A7,hr,z3,e7,hw⟩:=VC W;have hmk:(Instr.makeMap 132 none).run Tryz.prog (W.alloc (.cells #[.int .i64 0,.int .i64 0] 130))=.ok (.map (some (W.heap.size+1))) ((W.alloc (.cells #[.int .i64 0,.int .i64 0] 130)).alloc (.map #[] 0)):=by
  have h0:(Instr.makeMap 132 none).run Tryz.prog (W.alloc (.cells #[.int .i64 0,.int .i64 0] 130))=.ok (.map (some (W.alloc (.cells #[.int .i64 0,.int .i64 0] 130)).heap.size)) ((W.alloc (.cells #[.int .i64 0,.int .i64 0] 130)).alloc (.map #[] 0)):=run_makeMap ..;simpa using h0
 have HW:=hide hw;have uT:=hide e7;have HH:=hide h;have HZ3:=hide z3;clear hw e7 h z3;go_enter Tryz.func48,Tryz.ntmps48
 go_upto_region 4 with fail
 rw [HZ3.out];have e8:(((A3.alloc (.cells #[.map none,.slice none 0 0,.slice none 0 0,.slice none 0 0,.map none,.slice none 0 0,.slice none 0 0,.slice none 0 0,.slice none 0 0,.slice (some ⟨W.heap.size,0,none⟩) 1 1,.map (some (W.heap.size+1))] 142)).alloc (.cells #[.slice none 0 0] 113)).alloc (.cells #[.func (.func 65) #[] #[.pointer (some ⟨W.heap.size+2+1,0,none⟩)]] 54))=A7:=by rw [uT.out];rfl
 rw [e8];clear e8 uT hr hmk;obtain ⟨G,hG⟩:∃G,W.heap.size+2=G:=⟨_,rfl⟩
 obtain ⟨wb,hwb⟩:∃wb,W.heap.size+2+1=wb:=⟨_,rfl⟩
 obtain ⟨fb,x8⟩:∃fb,W.heap.size+2+1+1=fb:=⟨_,rfl⟩
 obtain ⟨M0,hM0⟩:∃M0,W.heap.size+1=M0:=⟨_,rfl⟩
 obtain ⟨L0,hL0⟩:∃L0,W.heap.size=L0:=⟨_,rfl⟩
 have HB:Hid (WB W A7 G wb fb M0):=by subst hG hwb x8 hM0;exact HW.out
 rw [x8,hwb,hG,hM0,hL0];clear HW HZ3 hG hwb x8 hM0 hL0;obtain ⟨O,hO,ho,hs,gx⟩:=HH.out.start HB.out;have tc:=HH.out.tc;have c0':A7.cell? ⟨rr,0,none⟩=some (.slice (some ⟨rb,0,none⟩) 1 1):=(HB.out.kp.cell (p:=⟨rr,0,none⟩) (block_lt_of_cell c0)).trans c0;obtain ⟨lo,hlo⟩:∃lo,W.heap.size+5=lo:=⟨_,rfl⟩
 rw [hlo] at hs gx;obtain ⟨RG,VD⟩:∃RG,(λj=>A7.cell? ⟨G,j,none⟩)=RG:=⟨_,rfl⟩
 rw [VD] at gx;have HRG:=hide VD;obtain ⟨tot,htot⟩:∃tot,fH F=tot:=⟨_,rfl⟩
 have ht:tot<=4000000:=by omega
 have Zp:Hid (∀V,Kept (λ_=>True) A7 V->Calls Tryz.prog 66 #[.pointer (some ⟨G,0,none⟩),.slice (some ⟨rb,0,none⟩) 1 1,pQ wb] V λe V'=>∃v,e=.returned v∧∃KK AA KR AR Qd,GX O RG A7 (SB A7 lo G wb) lo G wb fb V' KK AA KR AR Qd [] [] 0 tot∧(∃i:Nat,KK[i]? =some (rb,1)∧KR[i]? =some F)):=λV kV=>by
  have g2:=Aj gx kV;rw [htot] at g2;refine (BZ (R:=[]) (c:=0) (tot:=tot) (n:=1) (cap:=1) (a:=some ⟨rb,0,none⟩) (F:=F) (by rw [htot];exact g2) HH.out.fit hs ho ht HH.out.tw).mono ?_;rintro e V' ⟨rfl,K2,R2,Q2,g1,g3,-⟩;obtain ⟨i,b,e1,e2,e3⟩:=g3 (by decide);have eb:rb=b:=by injection e1 with e1;injection e1
  rw [<- eb] at e2;exact ⟨_,rfl,_,_,_,_,_,g1,i,e2,e3⟩
 have f0:A7.cell? ⟨fb,0,none⟩=some (pQ wb):=HB.out.bf.ae 0 _ rfl;have f0':A7.drew.cell? ⟨fb,0,none⟩=some (pQ wb):=f0;have HTT:=hide htot;clear gx hs ho VD htot tc
 go_upto_region 5 with fail
 go_loopw [7,25] (λ_ Em wr=>(Em=.int .i64 0∧wr=A7)∨(Em=.int .i64 1∧Hid (∃KK AA KR AR Qd,GX O RG A7 (SB A7 lo G wb) lo G wb fb wr KK AA KR AR Qd [] [] 0 tot∧(∃i:Nat,KK[i]? =some (rb,1)∧KR[i]? =some F)))) (λ_ Em _=>1 - (intOf Em).toNat)
 case atStart=>exact .inl ⟨rfl,rfl⟩
 case round=>
  rcases hrel with ⟨rfl,rfl⟩ | ⟨rfl,hgx⟩
  .go_upto_region 7 with fail
   go_region_law (first
    | (refine aX (by rfl) 66 #[.pointer (some ⟨G,0,none⟩),.slice (some ⟨rb,0,none⟩) 1 1,pQ wb] (by simp [go_sem]) _ (Zp.out _ (Kept.drew _ _)) ?_;rintro v5 W5 h5;have G5:=hide h5;clear h5)
    | fail)
   all_goals
    go_wp2_with fail;go_roundw
    case rel=>exact .inr ⟨by go_num,G5⟩
    case measure=>simp [intOf]
  .obtain ⟨KK0,AA0,KR0,AR0,Zq,Zr,Zt⟩:=hgx.out
   have Zu:=hide Zr;have Zv:=hide Zt;have Eo:=hide c0';have RP:Hid (rr < W.heap.size):=block_lt_of_cell c0;clear hgx Zr Zt Zp f0 f0' c0 c0'
   go_upto_region 9 with fail
   go_loopg [8] ((Zq.map (λd=>fH d.x)).sum) (λg _ wx=>∃Qd KK AA KR AR,Hid (g=(Qd.map (λd:Nd=>fH d.x)).sum)∧Hid (GX O RG A7 (SB A7 lo G wb) lo G wb fb wx KK AA KR AR Qd [] [] 0 tot)∧Hid (∃i:Nat,KK[i]? =some (rb,1)∧KR[i]? =some F))
   case atStart=>exact ⟨Zq,KK0,AA0,KR0,AR0,rfl,Zu,Zv⟩
   case round=>
    obtain ⟨Qd,KK,AA,KR,AR,hg,hgx,hrf⟩:=hrel;clear Zu Zv;rcases List.eq_nil_or_concat Qd with rfl | ⟨Q0,d,e0⟩
    .obtain ⟨wa,wc,p1⟩:=hgx.out.wbc
     have gi:=hgx.out.2.1;have RQ:=hide gi;have BD:=hide (gi.Ij ht);have Zw:Hid (Calls Tryz.prog 69 #[.pointer (some ⟨G,0,none⟩)] wr λr V1=>(∃v,r=.returned v)∧∃mk sk ma sa tk,S1 O A7 V1 lo G wb KK AA mk sk ma sa tk):=Ou (by rw [HRG.out];exact hgx.out) ht ⟨_,HB.out.bg.ae 2 _ rfl⟩;clear gi hgx
     go_upto_region 14 with fail
     go_upto_region 15 with (go_at_call 69;refine Zw.out.mono ?_;rintro e V1 ⟨⟨v1,rfl⟩,mk,sk,ma,sa,tk,s1⟩)
     have Zx:Hid (Calls Tryz.prog 70 #[.pointer (some ⟨G,4,none⟩)] V1 λr V2=>(∃v,r=.returned v)∧∃ta,PN O V2 W.heap.size (W.heap.size+5) G KK AA mk sk ma sa tk ta [(0,0)] (.slice (some ⟨W.heap.size,0,none⟩) 1 1) M0 (.slice none 0 0) 0 []∧Kept (λd=>d < W.heap.size+5∧d≠G∧d≠wb) A7 V2∧W.heap.size<=tk∧W.heap.size<=ta):=Ov HB.out (by rw [hlo];exact RQ.out) ht (by rw [hlo];exact s1);clear s1 Zw
     go_upto_region 16 with (go_at_call 70;refine Zx.out.mono ?_;rintro e V2 ⟨⟨v2,rfl⟩,ta,VE,VF,TD⟩)
     have eG:=HB.out.eG;have ew:=HB.out.ew;have c0r:V2.cell? ⟨rr,0,none⟩=some (.slice (some ⟨rb,0,none⟩) 1 1):=(VF.cell (p:=⟨rr,0,none⟩) (by have:=RP.out;have:=HB.out.sz;show rr < _;omega) ⟨by have:=RP.out;show rr < _;omega,by have:=RP.out;show rr≠_;omega,by have:=RP.out;show rr≠_;omega⟩).trans Eo.out;obtain ⟨ND,Zy⟩:∃ND,bY O KK KR++dw O AA AR=ND:=⟨_,rfl⟩
     have Zz:Hid (Calls Tryz.prog 51 #[.pointer (some ⟨G,0,none⟩),.slice (some ⟨rb,0,none⟩) 1 1] V2 λe V3=>(∃v,e=.returned v)∧∃LS lv,NP O W V3 (W.heap.size+5) G M0 KK AA mk sk ma sa tk ta ND 0 LS lv (.slice none 0 0) []∧∃(i:Nat) (x:Nat×Nat),LS[i]? =some x∧KX O KK (some ⟨rb,0,none⟩) 1 x):=by
      obtain ⟨i0,r1,r2⟩:=hrf.out;refine (VE.kid BD.out (a:=some ⟨rb,0,none⟩) (m:=1) (cap:=1) (.inr ⟨i0,rb,by rw [hO],r1,by decide⟩) (by simp)).mono ?_;rintro e V3 ⟨v,rfl,i,L2,lv',x,-,q,kx⟩;obtain ⟨n1,n2⟩:=NP.start (ND:=ND) HB.out VE VF TD q kx;exact ⟨⟨v,rfl⟩,_,_,n1,n2⟩
     have vK:=hide Zy;have HO:=hide hO;have Dl:Hid (lo=W.heap.size+5):=hlo.symm;clear VE VF TD Zx eG ew Zy hO hlo p1
     go_upto_region 17 with fail
     go_loopw [10,78] (λ_ RS wx=>(RS=.int .i64 0∧wx=V2)∨(RS=.int .i64 1∧Hid (∃LS lv,NP O W wx (W.heap.size+5) G M0 KK AA mk sk ma sa tk ta ND 0 LS lv (.slice none 0 0) []∧∃(i:Nat) (x:Nat×Nat),LS[i]? =some x∧KX O KK (some ⟨rb,0,none⟩) 1 x))) (λ_ RS _=>1 - (intOf RS).toNat)
     case atStart=>exact .inl ⟨rfl,rfl⟩
     case round=>
      rcases hrel with ⟨rfl,rfl⟩ | ⟨rfl,ZA⟩
      .go_wp2_with (go_at_call 51;refine Zz.out.mono ?_;rintro e V3 ⟨⟨v3,rfl⟩,aD⟩;have N3:=hide aD;clear aD)
       go_roundw
       case rel=>exact .inr ⟨by go_num,N3⟩
       case measure=>simp [intOf]
      .clear Zz c0r
       have VG:NQ O W lo G M0 KK AA mk sk ma sa tk ta (bY O KK KR++dw O AA AR) rb 0 wr:=by
        obtain ⟨LS,lv,n1,n2⟩:=ZA.out;rw [vK.out,Dl.out];exact ⟨LS,lv,_,_,n1,n2⟩
       obtain ⟨C,hC⟩:∃C,K.off KK KK.length=C:=⟨_,rfl⟩
       obtain ⟨D,hD⟩:∃D,A.off AA AA.length=D:=⟨_,rfl⟩
       have c2:=VG.c2.1;rw [hC] at c2;have NQ0:=hide VG;have Lf:=hide hC;have VH:=hide hD;have QB:C<=5000000:=by rw [<- hC];exact BD.out.ok
       have hDb:D<=5000000:=by rw [<- hD];exact BD.out.oa
       clear VG ZA hC hD
       go_upto_region 22 with fail
       go_loopw [12,92] (λ_ VI wx=>∃k:Nat,VI=.int .i64 (k:Int)∧k<=C∧Hid (NQ O W lo G M0 KK AA mk sk ma sa tk ta (bY O KK KR++dw O AA AR) rb k wx)) (λ_ VI _=>C - (intOf VI).toNat)
       case atStart=>exact ⟨0,rfl,Nat.zero_le _,NQ0⟩
       case round=>
        obtain ⟨k,rfl,hkC,hnq⟩:=hrel
        by_cases hk:k < C
        .have hki:(k:Int) < (C:Int):=by omega
         obtain ⟨bb,oo,cb,cc⟩:=hnq.out.kid RQ.out HB.out.kp Dl.out ht (by rw [Lf.out];exact hk);exact zz104
        .have hki:¬(k:Int) < (C:Int):=by omega
         have ZB:k=C:=by omega
         have RU:=hnq.out;have c6:=RU.c2.2;rw [VH.out] at c6;rw [ZB] at RU;have NQC:=hide RU;clear RU hnq ZB
         go_upto_region 27 with fail
         go_loopw [14,106] (λ_ Ow wx=>∃k:Nat,Ow=.int .i64 (k:Int)∧k<=D∧Hid (NQ O W lo G M0 KK AA mk sk ma sa tk ta (bY O KK KR++dw O AA AR) rb (C+k) wx)) (λ_ Ow _=>D - (intOf Ow).toNat)
         case atStart=>exact ⟨0,rfl,Nat.zero_le _,NQC⟩
         case round=>
          obtain ⟨k,rfl,hkD,hnq⟩:=hrel
          by_cases hk:k < D
          .have hki:(k:Int) < (D:Int):=by omega
           have hal:=NQ.alt (k:=k) (by rw [Lf.out];exact hnq.out) RQ.out HB.out.kp Dl.out ht (by rw [VH.out];exact hk);rw [Lf.out] at hal;obtain ⟨bb,oo,cb,cc⟩:=hal;exact zz104
          .have hki:¬(k:Int) < (D:Int):=by omega
           have ZC:k=D:=by omega
           have GEE:Hid (GE W wr rb F G):=by
            have ZE:=hnq.out;rw [ZC,<- Lf.out,<- VH.out] at ZE;exact ZE.fin (by rw [HTT.out];exact RQ.out) hrf.out HO.out HB.out.kp Dl.out
           clear hnq ZC;go_wp2_with fail;go_ret;exact ⟨G,rfl,GEE⟩
    .rw [List.concat_eq_append] at e0
     subst e0;obtain ⟨r,cap,p1,p2,p3,p4,g6,o1,o2,o3,TE⟩:=hgx.out.take;obtain ⟨n0,hn0⟩:∃n0,Q0.length=n0:=⟨_,rfl⟩
     rw [hn0] at p1 p3 p4 g6;obtain ⟨m,hm⟩:∃m,n0+1=m:=⟨_,rfl⟩
     rw [hm] at p1 p4;have hmi:(m:Int) - 1=(n0:Int):=by omega
     have hm0:(0:Int) < (m:Int):=by omega
     have hnm:(n0:Int) < (m:Int):=by omega
     have hnc:n0<=cap:=by omega
     have Zn:(n0:Int)<=(cap:Int):=by omega
     have hmb:m<=4000001:=by
      have:=(hgx.out.2.1).bound.2.1
      rw [List.length_append] at this;simp only [List.length_cons,List.length_nil] at this;omega
     obtain ⟨V1,hV1⟩:∃V1,wr.setCell ⟨wb,0,none⟩ (.slice (some ⟨r,0,none⟩) n0 cap)=V1:=⟨_,rfl⟩
     rw [hV1] at g6;obtain ⟨k,nm,mn,la,ln,lc,lk,na,nn,nc,nk,ka,kn,kc,kk,aa,an,ac,ak,hx,-,-,-,-,jg,jB⟩:=ag o1.fit;have ZF:Hid (∀V,Kept (λd=>d < lo∧d≠G∧d≠wb) A7 V->V.cell? ⟨d.b,d.o+5,none⟩=some (.slice ka kn kc)∧V.cell? ⟨d.b,d.o+6,none⟩=some (.slice aa an ac)):=λV kV=>by
      have:=TE V kV
      rw [hx] at this;exact ⟨this 5 _ rfl,this 6 _ rfl⟩
     have H36:Hid (∀V,Kept (λ_=>True) V1 V->Calls Tryz.prog 66 #[.pointer (some ⟨G,0,none⟩),.slice ka kn kc,pQ wb] V λe V'=>∃v,e=.returned v∧(∃K2 R2 Q2,GX O RG A7 (SB A7 lo G wb) lo G wb fb V' (KK++K2) AA (KR++R2) AR (Q0++Q2) [d] ((blk aa ak.len++ak.ah)++[]) (mh ak+0) tot∧(0 < kn->∃i b:Nat,ka=some ⟨b,O b,none⟩∧(KK++K2)[i]? =some (b,kn)∧(KR++R2)[i]? =some kk)∧(Q2.map (λd=>fH d.x)).sum=fH kk)):=λV kV=>by
      refine ((Aj g6 kV).kids hx jg o1.subs o2 ht o3).mono ?_;rintro e V' ⟨rfl,hq⟩;exact ⟨_,rfl,hq⟩
     have H37:Hid (∀V Dn RV Q',GX O RG A7 (SB A7 lo G wb) lo G wb fb V Dn AA RV AR Q' [d] ((blk aa ak.len++ak.ah)++[]) (mh ak+0) tot->(0 < kn->∃i b:Nat,ka=some ⟨b,O b,none⟩∧Dn[i]? =some (b,kn)∧RV[i]? =some kk)->Calls Tryz.prog 67 #[.pointer (some ⟨G,4,none⟩),.slice aa an ac,Ib fb] V λe V'=>∃v,e=.returned v∧(∃Dp RX Q2,GX O RG A7 (SB A7 lo G wb) lo G wb fb V' Dn Dp RV RX (Q'++Q2) [] [] 0 tot∧(Q2.map (λd=>fH d.x)).sum=mh ak)):=λV Dn RV Q' g7 hd7=>by
      refine (g7.alts hx jB o1.subs o2 ht o3 hd7).mono ?_;rintro e V' ⟨rfl,hq⟩;exact ⟨_,rfl,hq⟩
     have HSM:Hid (fH d.x=1+fH kk+mh ak):=by unfold Hid;rw [hx,qp,kI];omega
     have gD:=hide hV1;have G6:=hide g6;obtain ⟨a5,-⟩:=ZF.out V1 g6.2.2;have a5':V1.drew.cell? ⟨d.b,d.o+5,none⟩=some (.slice ka kn kc):=a5;have af:=g6.fbc;have af':V1.drew.cell? ⟨fb,0,none⟩=some (pQ wb):=af;clear g6 hV1 o1 o2 o3 TE hx jg jB hgx hm hn0
     go_upto_region 12 with fail
     rw [gD.out]
     go_region_law (first
      | (refine aX (by rfl) 66 #[.pointer (some ⟨G,0,none⟩),.slice ka kn kc,pQ wb] (by simp [go_sem]) _ (H36.out _ (Kept.drew _ _)) ?_;rintro v5 W5 h5;have G5:=hide h5;clear h5)
      | fail)
     all_goals
      obtain ⟨K2,R2,Q2,g7,hd7,hs7⟩:=G5.out;obtain ⟨-,b6⟩:=ZF.out W5 g7.2.2;have b6':W5.drew.cell? ⟨d.b,d.o+6,none⟩=some (.slice aa an ac):=b6;have H38:=hide (H37.out W5.drew _ _ _ (Aj g7 (Kept.drew _ _)) hd7);have CP:=hide hs7;clear g7 hd7 hs7 G5
      go_upto_region 13 with fail
      go_region_law (first
       | (refine aX (by rfl) 67 #[.pointer (some ⟨G,4,none⟩),.slice aa an ac,Ib fb] (by simp [go_sem,Ib]) _ H38.out ?_;rintro v6 W6 h6;have G6':=hide h6;clear h6)
       | fail)
      all_goals
       go_wp2_with fail;obtain ⟨Dp,RX,Q3,g8,ug⟩:=G6'.out;go_roundg (((Q0++Q2++Q3).map (λd:Nd=>fH d.x)).sum)
       case measure=>
        have h1:=HSM.out;have h2:=CP.out;rw [hg.out];simp only [List.map_append,List.sum_append,List.map_cons,List.map_nil,List.sum_cons,List.sum_nil,h2,ug,h1];omega
       case rel=>
        refine ⟨Q0++Q2++Q3,_,_,_,_,rfl,g8,?_⟩;obtain ⟨i,r1,r2⟩:=hrf.out;exact ⟨i,by rw [List.getElem?_append_left (List.getElem?_eq_some_iff.1 r1).1];exact r1,by rw [List.getElem?_append_left (List.getElem?_eq_some_iff.1 r2).1];exact r2⟩
end Go.Proofs.YthfnobboalhihaaGreat
