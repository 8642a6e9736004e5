import Derived.Test.YthfnobboalhihaaGreatVb
import Derived.Deep.RegionHeld3
set_option maxHeartbeats 8000000
set_option maxRecDepth 100000
namespace Go.Proofs.YthfnobboalhihaaGreat
open Go.RowKit Go.Joins
theorem Tryz.info197:(Tryz.prog.info? 197).map (λi=>(i.zero,i.size,i.bytes))=some (some (.agg #[.int .i64 0,.int .i64 0,.int .i64 0]),3,24):=by kernel_rfl
theorem vZ (a b:Nat) (ha:a<=1000000000) (hb:b<=1000000000) (W:World):Calls Tryz.prog 109 #[.int .i64 a,.int .i64 b] W λe W'=>e=.returned (.int .i64 ((a+b:Nat):Int))∧W'=W:=by
 have h1:((b:Nat):Int)<=9223372036854775807 - (a:Int):=by omega
 go_enter Tryz.func109,Tryz.ntmps109;go_wp2_with fail;go_ret;exact ⟨by simp,rfl⟩
theorem yN {g:Gr} {W0:World} {lo G nb gy B tb lb ct cl cn cm:Nat} {V:World} {T L:Nat->Int} {st:List (Nat×Nat)} {sv:Value} (c:MC g W0 lo G nb gy B tb lb ct cl cn cm) (h:MS g W0 lo G B tb lb ct cl V T L st sv) (p:Nat) (hp:p < g.nl) (hs:st.length<=10000000):
  Calls Tryz.prog 73 #[.pointer (some ⟨B,0,none⟩),.int .i64 p] V λe V'=>e=.returned (.tuple #[])∧∃b cap,MS g W0 lo G B tb lb ct cl V' T (upd L p 9223372036854775807) ((p,0)::st) (.slice (some ⟨b,0,none⟩) (st.length+1) cap):=by
 obtain ⟨V1,hV1⟩:∃V1,V.setCell ⟨lb,p,none⟩ (.int .i64 9223372036854775807)=V1:=⟨_,rfl⟩
 have h1:MS g W0 lo G B tb lb ct cl V1 T (upd L p 9223372036854775807) st sv:=by rw [<- hV1];exact h.mR c hp _
 obtain ⟨V2,hV2⟩:∃V2,V1.alloc (.cells #[.int .i64 p,.int .i64 0,.int .i64 0] 197)=V2:=⟨_,rfl⟩
 have k2:Kept (λ_=>True) V1 V2:=by rw [<- hV2];exact Kept.alloc _ _ _
 have h2:=h1.kept c k2;have c0:=h.bx.ae 3 _ rfl;have c1:=h.lr p hp;have c2:=h.lf p;have hpc:p < cl:=by have:=c.nc;omega
 have d0:=h1.bx.ae 4 _ rfl;have HN:Hid (V2.heap[V1.heap.size]? =some (.cells #[.int .i64 p,.int .i64 0,.int .i64 0] 197)):=by unfold Hid;rw [<- hV2];exact bH _ _
 have iV:Hid (∀b cap W',W'.ownsRow lo 197 3 (.slice (some ⟨b,0,none⟩) (st.length+1) cap) (st.length+1) (g.lY st++[.int .i64 p,.int .i64 0,.int .i64 0])->V2.grownBy W' sv.ownBlock->MS g W0 lo G B tb lb ct cl (W'.setCell ⟨B,4,none⟩ (.slice (some ⟨b,0,none⟩) (st.length+1) cap)) T (upd L p 9223372036854775807) ((p,0)::st) (.slice (some ⟨b,0,none⟩) (st.length+1) cap)∧W'.cell? ⟨B,4,none⟩=some sv∧W'.frozen? ⟨B,4,none⟩=false):=λb cap W' o1 o2=>by
  have k5:Kept (λd=>d < lo) V2 W':=Kept.grown o2 (λd e hd=>by have:=az h2.ow d e;omega);have e1:g.lY ((p,0)::st)=g.lY st++[.int .i64 p,.int .i64 0,.int .i64 0]:=by rw [g.lC];rfl
  have b5:=h2.bx.kept k5 c.hB.2;exact ⟨h2.open c k5 (st':=(p,0)::st) (by rw [e1];exact o1),b5.ae 4 _ rfl,b5.live 4⟩
 have HOW:=hide h2.ow;have HZ:=hide h2.hv;have h63:Hid (st.length+1<=maxLen∧(st.length+1)* 24<=140737488355328):=⟨by unfold maxLen;omega,by omega⟩
 have gD:=hide hV1;have qW:=hide hV2;clear hV1 hV2 h h1 h2 k2 hs;go_enter Tryz.func73,Tryz.ntmps73
 go_upto_region 1 with fail
 rw [gD.out];clear gD c0 c1 c2;go_wp2_with (at_builtin;rw [qW.out];refine iB rfl _ _ 148 197 rfl Tryz.info197 Tryz.underlying148 rfl (by decide) lo V2 sv st.length (g.lY st) [.int .i64 p,.int .i64 0,.int .i64 0] _ _ rfl rfl HZ.out HOW.out HN.out rfl (by simp [Value.oneCell']) h63.out.1 h63.out.2 ?_;intro g7 c7 w3 gX fB _;have jF:=hide (iV.out g7 c7 w3 gX fB);have x1:=jF.out.2.1;have x2:=jF.out.2.2;clear gX fB);exact bodyPost_end (results_none rfl _ _ _) rfl ⟨rfl,g7,c7,jF.out.1⟩
theorem zz175 {P:Prop} (h:P:=by
 go_wp2_with fail;refine HB.out.mono ?_;rintro e w1 ⟨rfl,hF⟩;have HF:=hide hF;clear hF;go_wp2_with fail;go_ret;exact HF.out):P:=h
def Qh (g:Gr) (W0:World) (lo G B tb lb ct cl:Nat) (T L:Nat->Int) (l n:Nat) (st:List (Nat×Nat)) (sv:Value) (e:Ending) (V':World):Prop:=
 (e=.returned (.bool true)∧∃T':Nat->Int,T' (g.fst l+n)=((g.sT (g.fst l+n):Nat):Int)∧g.MI T' L ((l,n)::st)∧MS g W0 lo G B tb lb ct cl V' T' L ((l,n)::st) sv)∨
 (e=.returned (.bool false)∧∃p b cap,p < g.nl∧L p=-1∧g.MI T (upd L p 9223372036854775807) ((p,0)::(l,n)::st)∧MS g W0 lo G B tb lb ct cl V' T (upd L p 9223372036854775807) ((p,0)::(l,n)::st) (.slice (some ⟨b,0,none⟩) (st.length+1+1) cap))
theorem LU (x y:Int) (w:World):(Instr.index 153 (.agg #[.int .i64 x,.int .i64 y]) (.int .i64 0)).run Tryz.prog w=.ok (.int .i64 x) w:=by kernel_rfl
theorem LV (x y:Int) (w:World):(Instr.index 153 (.agg #[.int .i64 x,.int .i64 y]) (.int .i64 1)).run Tryz.prog w=.ok (.int .i64 y) w:=by kernel_rfl
def LpI (g:Gr) (L:Nat->Int) (V:World) (u p q:Nat) (s5 Jf:Value) (wr:World):Prop:=
 (wr=V∧Jf=.int .i64 0∧s5=.int .i64 (u:Int))∨(wr=V∧Jf=.int .i64 1∧s5=.int .i64 ((u+g.sL p:Nat):Int)∧Hid (L p=((g.sL p:Nat):Int)))∨(wr=V∧Jf=.int .i64 2∧s5=.int .i64 ((u+g.sL p+g.sL q:Nat):Int)∧Hid (L p=((g.sL p:Nat):Int))∧Hid (L q=((g.sL q:Nat):Int)))
theorem Rl {g:Gr} {W0:World} {lo G nb gy B tb lb ct cl cn cm:Nat} {V:World} {T L:Nat->Int} {l n:Nat} {st:List (Nat×Nat)} {sv:Value} (c:MC g W0 lo G nb gy B tb lb ct cl cn cm) (h:MS g W0 lo G B tb lb ct cl V T L ((l,n)::st) sv) (hi:g.MI T L ((l,n)::st)) (hn:n < g.cnt l) (hs:st.length+1<=10000000) (ER:∀p q,p < g.nl->q < g.nl->g.sL p<=400000000∧g.sL q<=400000000):
  Calls Tryz.prog 108 #[.pointer (some ⟨B,0,none⟩),.int .i64 ((g.fst l+n:Nat):Int)] V (Qh g W0 lo G B tb lb ct cl T L l n st sv):=by
 obtain ⟨k,hk⟩:∃k,g.fst l+n=k:=⟨_,rfl⟩
 have hkt:k < g.nt:=by have:=c.ok.bnd l (hi.op (l,n) List.mem_cons_self).1;omega
 have hkc:k < ct:=by have:=c.nc;omega
 have hkn:k < cn:=by have:=c.nc;omega
 obtain ⟨Qi,Qj⟩:=c.ok.pq k hkt;have qZ:=hi.closed c.ok hn (.inl rfl);have KQ:=hi.closed c.ok hn (.inr rfl);rw [hk] at qZ KQ;rw [hk];have c2:=h.bx.ae 2 _ rfl;have ct1:=h.tr k hkt
 by_cases ht:T k=-1
 rotate_left
 .have hT:T k=g.sT k:=(hi.Lj k hkt).resolve_left ht
  have htb:(T k==-1)=false:=by simp [ht]
  have HF:Hid (Qh g W0 lo G B tb lb ct cl T L l n st sv (.returned (.bool true)) V):=.inl ⟨rfl,T,by rw [hk];exact hT,hi,h⟩;clear hT ht h hi qZ KQ;go_enter Tryz.func108,Tryz.ntmps108;go_wp2_with fail;go_ret;exact HF.out
 have htb:(T k==-1)=true:=by simp [ht]
 have c1:=h.bx.ae 1 _ rfl;have HC:=hide c;have HKK:=hide hk;have SX:Hid ((L (g.pl k)=-1∨L (g.pl k)=((g.sL (g.pl k):Nat):Int))∧(L (g.ql k)=-1∨L (g.ql k)=((g.sL (g.ql k):Nat):Int))):=⟨qZ.2.2,KQ.2.2⟩
 obtain ⟨u,hu⟩:∃u,g.w k=u:=⟨_,rfl⟩
 have hul:u<=400000000:=by
  have h1:=g.part hn;have h2:=(ER l l (hi.op (l,n) List.mem_cons_self).1 (hi.op (l,n) List.mem_cons_self).1).1;have h3:=c.ok.sz k hkt;rw [hk] at h1;omega
 obtain ⟨p,hp⟩:∃p,g.pl k=p:=⟨_,rfl⟩
 obtain ⟨q,hq⟩:∃q,g.ql k=q:=⟨_,rfl⟩
 rw [hp] at SX Qi;rw [hq] at SX Qj;have WS:=hide hp;have WT:=hide hq;have HUE:=hide hu;have pc:p < cl:=by have:=c.nc;omega
 have qc:q < cl:=by have:=c.nc;omega
 have HO:Hid (Calls Tryz.prog 50 #[.pointer (some ⟨g.cp,0,none⟩),.int .i64 (k:Int)] V λe V'=>e=.returned (.int .i64 (u:Int))∧Kept (λ_=>True) V V'):=by
  have:=c.wg k hkt V h.be
  rw [hu] at this;exact this
 have fZ:Hid (g.sL p<=400000000∧g.sL q<=400000000):=ER p q Qi Qj;have Uv:Hid (∀w,Kept (λ_=>True) V w->((w.cell? ⟨B,0,none⟩=some (.pointer (some ⟨G,0,none⟩))∧w.cell? ⟨B,2,none⟩=some (.slice (some ⟨tb,0,none⟩) g.nt ct)∧w.cell? ⟨B,3,none⟩=some (.slice (some ⟨lb,0,none⟩) g.nl cl))∧(w.cell? ⟨G,8,none⟩=some (.slice (some ⟨nb,0,none⟩) g.nt cn)∧w.cell? ⟨nb,k * 3+1,none⟩=some (.int .i64 p)∧w.cell? ⟨nb,k * 3+1+1,none⟩=some (.int .i64 q))∧w.cell? ⟨tb,k,none⟩=some (.int .i64 (T k))∧w.cell? ⟨lb,p,none⟩=some (.int .i64 (L p))∧w.cell? ⟨lb,q,none⟩=some (.int .i64 (L q)))∧Hid (g.MI T L ((l,n)::st)∧MS g W0 lo G B tb lb ct cl w T L ((l,n)::st) sv)):=λw kw=>by
  have hw:=h.kept c kw;have n1:=(hw.be.cell (p:=⟨nb,k * 3+1,none⟩) (block_lt_of_cell (c.nd k hkt).1)).trans (c.nd k hkt).1;have n2:=(hw.be.cell (p:=⟨nb,k * 3+1+1,none⟩) (block_lt_of_cell (c.nd k hkt).2)).trans (c.nd k hkt).2;rw [hp] at n1;rw [hq] at n2;exact ⟨⟨⟨hw.bx.ae 0 _ rfl,hw.bx.ae 2 _ rfl,hw.bx.ae 3 _ rfl⟩,⟨(hw.be.cell (p:=⟨G,8,none⟩) (block_lt_of_cell c.n8)).trans c.n8,n1,n2⟩,hw.tr k hkt,hw.lr p Qi,hw.lr q Qj⟩,hi,hw⟩
 have SY:=hide hul;clear hp hq hu qZ KQ hi h c hk ht hul;go_enter Tryz.func108,Tryz.ntmps108;go_wp2_with fail;refine HO.out.mono ?_;clear c1 c2 ct1;rintro e w ⟨rfl,kw⟩;obtain ⟨⟨⟨c0,c2,c3⟩,⟨g8,n1,n2⟩,ct1,lp,lq⟩,HT⟩:=Uv.out w kw;clear kw Uv HO;go_wp2_with fail;have ri0:=LU p q w;have ri1:=LV p q w
 go_loopw [5,33] (λs5 Jf wr=>LpI g L w u p q s5 Jf wr) (λs5 Jf wr=>(2 - intOf Jf).toNat)
 case atStart=>exact .inl ⟨rfl,rfl,rfl⟩
 case round=>
  rcases hrel with ⟨hw,rfl,rfl⟩ | ⟨hw,rfl,rfl,e1⟩ | ⟨hw,rfl,rfl,e1,e2⟩
  all_goals obtain rfl:w=wr:=hw.symm
  all_goals try clear hw
  .rcases SX.out.1 with e2 | e2
   .have HB:Hid (Calls Tryz.prog 73 #[.pointer (some ⟨B,0,none⟩),.int .i64 p] w (λe V'=>e=.returned (.tuple #[])∧Qh g W0 lo G B tb lb ct cl T L l n st sv (.returned (.bool false)) V')):=(yN HC.out HT.out.2 p Qi (by rw [List.length_cons];omega)).mono (by
     rintro e V' ⟨rfl,b,cap,h3⟩;exact ⟨rfl,.inr ⟨rfl,p,b,cap,Qi,e2,HT.out.1.opn HC.out.ok hn (.inl (by rw [HKK.out,WS.out])) _,h3⟩⟩)
    have hb:(L p==-1)=true:=by simp [e2]
    clear e2;exact zz175
   .have E2:=hide e2
    have hb:(L p==-1)=false:=by rw [e2];simp
    have lp':=lp;rw [e2] at lp';have lp2:w.cell? ⟨lb,p,none⟩=some (.int .i64 (L p)):=lp;have HB:=hide (vZ u (g.sL p) (by have:=SY.out;have:=fZ.out.1;have:=fZ.out.2;omega) (by have:=SY.out;have:=fZ.out.1;have:=fZ.out.2;omega) w);rw [e2] at hb;clear e2 lp lp2;go_wp2_with fail;refine HB.out.mono ?_;rintro e w1 ⟨rfl,rfl⟩;go_wp2_with fail;go_roundw
    case rel=>exact .inr (.inl ⟨rfl,rfl,rfl,E2⟩)
    case measure=>simp [intOf]
  .rcases SX.out.2 with e2 | e2
   .have HB:Hid (Calls Tryz.prog 73 #[.pointer (some ⟨B,0,none⟩),.int .i64 q] w (λe V'=>e=.returned (.tuple #[])∧Qh g W0 lo G B tb lb ct cl T L l n st sv (.returned (.bool false)) V')):=(yN HC.out HT.out.2 q Qj (by rw [List.length_cons];omega)).mono (by
     rintro e V' ⟨rfl,b,cap,h3⟩;exact ⟨rfl,.inr ⟨rfl,q,b,cap,Qj,e2,HT.out.1.opn HC.out.ok hn (.inr (by rw [HKK.out,WT.out])) _,h3⟩⟩)
    have hb:(L q==-1)=true:=by simp [e2]
    clear e2 e1;exact zz175
   .have E2:=hide e2
    have hb:(L q==-1)=false:=by rw [e2];simp
    have lq':=lq;rw [e2] at lq';have lq2:w.cell? ⟨lb,q,none⟩=some (.int .i64 (L q)):=lq;have HB:=hide (vZ (u+g.sL p) (g.sL q) (by have:=SY.out;have:=fZ.out.1;have:=fZ.out.2;omega) (by have:=SY.out;have:=fZ.out.1;have:=fZ.out.2;omega) w);rw [e2] at hb;clear e2 lq lq2;go_wp2_with fail;refine HB.out.mono ?_;rintro e w1 ⟨rfl,rfl⟩;go_wp2_with fail;go_roundw
    case rel=>exact .inr (.inr ⟨rfl,rfl,rfl,e1,E2⟩)
    case measure=>simp [intOf]
  .have HF:Hid (Qh g W0 lo G B tb lb ct cl T L l n st sv (.returned (.bool true)) (w.setCell ⟨tb,k,none⟩ (.int .i64 ((u+g.sL p+g.sL q:Nat):Int)))):=by
    have hz:u+g.sL p+g.sL q=g.sT k:=by rw [<- WS.out,<- WT.out,<- HUE.out];exact (HC.out.ok.sz k hkt).symm
    rw [hz];have h3:=HT.out.1.term HC.out.ok hn (by rw [HKK.out,WS.out,e1.out];omega) (by rw [HKK.out,WT.out,e2.out];omega);rw [HKK.out] at h3;exact .inl ⟨rfl,_,by rw [HKK.out,upd_same],h3.2,HT.out.2.aad HC.out hkt _⟩
   have tf:=HT.out.2.tf k;clear e1 e2;go_wp2_with fail;go_ret;exact HF.out
theorem zz210 {P:Prop} (h:P:=by
 refine aL ho (m * 3+j) v ?_;rw [<- hsl,List.getElem?_append_right (by omega)];simpa using hv):P:=h
theorem wr1 (m:Nat) (h:m<=10000000):IntKind.i64.wrap (m:Int)=(m:Int):=by
 rw [IntKind.wrap_i64];omega
theorem BV {L:Nat->Int} {p:Nat} {v:Int} (hv:v≠-1):∀j,L j≠-1->upd L p v j≠-1:=λj h=>by
 by_cases e:j=p
 .rw [e,upd_same];exact hv
 .rw [upd_ne _ _ e];exact h
theorem MS.next {g:Gr} {W0:World} {lo G nb gy B tb lb ct cl cn cm:Nat} {V:World} {T L:Nat->Int} {l n:Nat} {st:List (Nat×Nat)} {b cap m:Nat} (c:MC g W0 lo G nb gy B tb lb ct cl cn cm) (hm:st.length=m) (h:MS g W0 lo G B tb lb ct cl V T L ((l,n)::st) (.slice (some ⟨b,0,none⟩) (m+1) cap)) {s:Nat} (hs:s=gT g.sT (g.fst l) (n+1)):
  MS g W0 lo G B tb lb ct cl ((V.setCell ⟨b,m * 3+2,none⟩ (.int .i64 s)).setCell ⟨b,m * 3+1,none⟩ (.int .i64 ((n:Int)+1))) T L ((l,n+1)::st) (.slice (some ⟨b,0,none⟩) (m+1) cap):=by
 subst hm hs;have ho:=h.ow;have hsl:=g.rV st;have e1:g.lY ((l,n)::st)=(g.lY st++[.int .i64 l,.int .i64 n])++.int .i64 (gT g.sT (g.fst l) n)::[]:=by rw [g.lC];simp [Gr.fr]
 rw [e1] at ho;have o1:=jq ho (.int .i64 ((gT g.sT (g.fst l) (n+1):Nat):Int));have l1:(g.lY st++[Value.int .i64 l,.int .i64 n]).length=st.length * 3+2:=by simp [hsl]
 rw [l1] at o1;have e2:(g.lY st++[Value.int .i64 l,.int .i64 n])++.int .i64 ((gT g.sT (g.fst l) (n+1):Nat):Int)::[]=(g.lY st++[.int .i64 l])++.int .i64 n ::[.int .i64 ((gT g.sT (g.fst l) (n+1):Nat):Int)]:=by simp
 rw [e2] at o1;have o2:=jq o1 (.int .i64 ((n:Int)+1));have l2:(g.lY st++[Value.int .i64 l]).length=st.length * 3+1:=by simp [hsl]
 rw [l2] at o2;have e3:(g.lY st++[Value.int .i64 l])++.int .i64 ((n:Int)+1)::[.int .i64 ((gT g.sT (g.fst l) (n+1):Nat):Int)]=g.lY ((l,n+1)::st):=by rw [g.lC];simp [Gr.fr]
 rw [e3] at o2;have k:Kept (λd=>d≠b) V ((V.setCell ⟨b,st.length * 3+2,none⟩ (.int .i64 ((gT g.sT (g.fst l) (n+1):Nat):Int))).setCell ⟨b,st.length * 3+1,none⟩ (.int .i64 ((n:Int)+1))):=((Kept.refl _ _).set (by simp)).set (by simp);exact MS.top (st:=(l,n)::st) (st':=(l,n+1)::st) c h k rfl o2
def Rk (g:Gr) (W0:World) (lo G B tb lb ct cl:Nat) (L0:Nat->Int) (k:Nat) (e:Ending) (V':World):Prop:=
 e=.returned (.tuple #[])∧∃T L st sv,g.MI T L st∧MS g W0 lo G B tb lb ct cl V' T L st sv∧g.left L st < k∧(sv=.slice none 0 0∧st=[]∨∃b cap,sv=.slice (some ⟨b,0,none⟩) st.length cap)∧∀j,L0 j≠-1->L j≠-1
theorem JD {g:Gr} {W0:World} {lo G nb gy B tb lb ct cl cn cm:Nat} {V:World} {T L:Nat->Int} {l n:Nat} {st:List (Nat×Nat)} {b cap m:Nat} (c:MC g W0 lo G nb gy B tb lb ct cl cn cm) (hm:st.length=m) (h:MS g W0 lo G B tb lb ct cl V T L ((l,n)::st) (.slice (some ⟨b,0,none⟩) (m+1) cap)) (hi:g.MI T L ((l,n)::st)) (hs:m+1<=10000000) (ER:∀p q,p < g.nl->q < g.nl->g.sL p<=400000000∧g.sL q<=400000000):
  Calls Tryz.prog 74 #[.pointer (some ⟨B,0,none⟩)] V (Rk g W0 lo G B tb lb ct cl L (g.left L ((l,n)::st))):=by
 obtain ⟨hl',hnc'⟩:=hi.op (l,n) List.mem_cons_self;have hl:l < g.nl:=hl';have hnc:n<=g.cnt l:=hnc';clear hl' hnc';have hlc:l < cm:=by have:=c.nc;omega
 have gQ:Hid (∀V',Kept (λ_=>True) V V'->(V'.cell? ⟨B,4,none⟩=some (.slice (some ⟨b,0,none⟩) (m+1) cap)∧V'.cell? ⟨B,0,none⟩=some (.pointer (some ⟨G,0,none⟩))∧V'.cell? ⟨B,3,none⟩=some (.slice (some ⟨lb,0,none⟩) g.nl cl))∧(V'.cell? ⟨b,m * 3,none⟩=some (.int .i64 l)∧V'.cell? ⟨b,m * 3+1,none⟩=some (.int .i64 n)∧V'.cell? ⟨b,m * 3+2,none⟩=some (.int .i64 (gT g.sT (g.fst l) n)))∧V'.cell? ⟨G,9,none⟩=some (.slice (some ⟨gy,0,none⟩) g.nl cm)∧V'.cell? ⟨gy,l * 2,none⟩=some (.int .i64 (g.fst l))∧V'.cell? ⟨gy,l * 2+1,none⟩=some (.int .i64 (g.cnt l))):=λV' k=>by
  have h':=h.kept c k;have ho:=h'.ow;rw [g.lC,List.length_cons,hm] at ho;have hsl:=g.rV st;rw [hm] at hsl;have hce:∀j v,(g.fr (l,n))[j]? =some v->V'.cell? ⟨b,m * 3+j,none⟩=some v:=λj v hv=>by
   exact zz210
  have e9:=(h'.be.cell (p:=⟨G,9,none⟩) (block_lt_of_cell c.n9)).trans c.n9;have e1:=(h'.be.cell (p:=⟨gy,l * 2,none⟩) (block_lt_of_cell (c.ls l hl).1)).trans (c.ls l hl).1;have e2:=(h'.be.cell (p:=⟨gy,l * 2+1,none⟩) (block_lt_of_cell (c.ls l hl).2)).trans (c.ls l hl).2;exact ⟨⟨h'.bx.ae 4 _ rfl,h'.bx.ae 0 _ rfl,h'.bx.ae 3 _ rfl⟩,⟨hce 0 _ rfl,hce 1 _ rfl,hce 2 _ rfl⟩,e9,e1,e2⟩
 have HT:Hid (g.MI T L ((l,n)::st)∧MS g W0 lo G B tb lb ct cl V T L ((l,n)::st) (.slice (some ⟨b,0,none⟩) (m+1) cap)):=⟨hi,h⟩
 have HC:=hide c;have HM:=hide hm;have YI:=hide ER;clear hm h hi ER c;have HDR:Hid (Kept (λ_=>True) V V.drew):=Kept.drew _ _;have k0:=gQ.out V.drew HDR.out;have k1:=gQ.out V (Kept.refl _ _);go_enter Tryz.func74,Tryz.ntmps74
 go_upto_region 0 with fail
 go_cut [2] (λs wx=>s=.pointer (some ⟨b,m * 3,none⟩)∧Kept (λ_=>True) V wx)
 case first=>
  go_region
  all_goals
   go_wp2_with fail;go_meet
   case rel=>exact ⟨rfl,HDR.out⟩
 case rest=>
 obtain ⟨rfl,hcb⟩:=hcut
 rename World=>v1
 have K1:=hide hcb;clear hcb k0 k1 HDR
 go_upto_region 1 with fail
 have HDR:Hid (Kept (λ_=>True) V v1.drew):=K1.out.dr;have k0:=gQ.out v1.drew HDR.out;have k1:=gQ.out v1 K1.out;have k2:=gQ.out (v1.alloc (.cells #[.int .i64 0,.int .i64 0] 130)) (K1.out.trans (Kept.alloc _ _ _));have k3:=gQ.out (v1.alloc (.cells #[.int .i64 0,.int .i64 0] 130)).drew (K1.out.trans (Kept.alloc _ _ _)).dr;go_cut [3] (λs wx=>∃x,s=.pointer (some ⟨x,0,none⟩)∧V.heap.size<=x∧Bx wx x [.int .i64 (g.fst l),.int .i64 (g.cnt l)]∧Kept (λ_=>True) V wx)
 case first=>
  go_region
  all_goals
   go_wp2_with fail;go_meet
   case rel=>exact ⟨_,rfl,K1.out.size,(Bx.new _ _ _).kept (Kept.drew (λ_=>True) _) trivial,(K1.out.trans (Kept.alloc _ _ _)).dr⟩
 case rest=>
 obtain ⟨x,rfl,hx,hbx,hcb⟩:=hcut
 rename World=>v2
 have K2:=hide hcb;have HX:=hide hx;have x9:=hide hbx;clear hcb k0 k1 k2 k3 HDR K1 hx hbx
 go_upto_region 2 with fail
 have HDR:Hid (Kept (λ_=>True) v2 v2.drew):=Kept.drew _ _;have k0:=gQ.out v2.drew (K2.out.trans HDR.out);have k1:=gQ.out v2 K2.out;have x0:=x9.out.ae 0 _ rfl;have x1:=x9.out.ae 1 _ rfl;have y0:=(x9.out.kept HDR.out trivial).ae 0 _ rfl;have y1:=(x9.out.kept HDR.out trivial).ae 1 _ rfl;obtain ⟨q,hq⟩:∃q,((n:Int)==(g.cnt l:Int))=q:=⟨_,rfl⟩
 go_cut [35] (λs wx=>s=.bool q∧Kept (λ_=>True) v2 wx)
 case first=>
  go_region
  all_goals
   go_wp2_with fail;go_meet
   case rel=>exact ⟨by first | rfl | rw [hq] | (rw [<- hq];rfl),HDR.out⟩
 case rest=>
 obtain ⟨rfl,hcb⟩:=hcut
 rename World=>v3
 have K3:=hide (K2.out.trans hcb);have JE:=hide (x9.out.kept hcb trivial);clear hcb k0 k1 x0 x1 y0 y1 HDR x9 K2
 cases q
 .have hne:n < g.cnt l:=by
   have:(n:Int)≠(g.cnt l:Int):=by simpa using hq
   omega
  have hft:g.fst l+n < g.nt∧g.nt<=10000000:=by have:=HC.out.ok.bnd l hl;have:=HC.out.ok.lim.2;omega
  obtain ⟨k,hkk⟩:∃k,g.fst l+n=k:=⟨_,rfl⟩
  rw [hkk] at hft;have HKK:=hide hkk;have hsum:(g.fst l:Int)+(n:Int)=(k:Int):=by omega
  clear hq hkk
  go_upto_region 5 with fail
  have HDR:Hid (Kept (λ_=>True) v3 v3.drew):=Kept.drew _ _;have k0:=gQ.out v3.drew (K3.out.trans HDR.out);have k1:=gQ.out v3 K3.out;have x0:=JE.out.ae 0 _ rfl;have y0:=(JE.out.kept HDR.out trivial).ae 0 _ rfl;go_cut [4] (λs wx=>s=.int .i64 (k:Int)∧Kept (λ_=>True) v3 wx)
  case first=>
   go_region
   all_goals
    go_wp2_with fail;go_meet
    case rel=>exact ⟨by first | rfl | rw [hsum],HDR.out⟩
  case rest=>
  obtain ⟨rfl,hcb⟩:=hcut
  rename World=>v4
  clear hsum;have K4:=hide (K3.out.trans hcb);clear hcb k0 k1 x0 y0 HDR JE K3;have hme:=Rl HC.out (HT.out.2.kept HC.out K4.out) HT.out.1 hne (by rw [HM.out];exact hs) YI.out;rw [HKK.out] at hme;have ES:=hide hme;clear hme;go_upto_if 72 with fail;refine ES.out.mono ?_;rintro e v5 (⟨rfl,T',t1,t2,t3⟩ | ⟨rfl,p,b',cap',p1,p2,p3,p4⟩)
  .have M5:=hide t3
   have HT1:=hide t1;have HT2:=hide t2;clear t1 t2 t3 ES
   go_upto_region 7 with fail
   obtain ⟨s,hs1⟩:∃s,gT g.sT (g.fst l) n=s:=⟨_,rfl⟩
   obtain ⟨u,hu1⟩:∃u,g.sT (g.fst l+n)=u:=⟨_,rfl⟩
   have hsu:s+u<=400000000:=by
    have h1:=g.part hne;have h2:=(YI.out l l hl hl).1;omega
   have Vi:Hid (∀V',Kept (λ_=>True) v5 V'->(V'.cell? ⟨B,2,none⟩=some (.slice (some ⟨tb,0,none⟩) g.nt ct)∧V'.cell? ⟨tb,k,none⟩=some (.int .i64 (u:Int)))∧V'.cell? ⟨b,m * 3+2,none⟩=some (.int .i64 (s:Int))∧V'.cell? ⟨b,m * 3+1,none⟩=some (.int .i64 (n:Int))∧V'.frozen? ⟨b,m * 3+2,none⟩=false∧V'.frozen? ⟨b,m * 3+1,none⟩=false):=λV' kV=>by
    have h':=M5.out.kept HC.out kV;have ho:=h'.ow;rw [g.lC,List.length_cons,HM.out] at ho;have hsl:=g.rV st;rw [HM.out] at hsl;have hce:∀j v,(g.fr (l,n))[j]? =some v->V'.cell? ⟨b,m * 3+j,none⟩=some v:=λj v hv=>by
     exact zz210
    have e1:=h'.tr k hft.1;have e2:=HT1.out;rw [HKK.out] at e2;rw [HKK.out] at hu1;rw [e2,hu1] at e1;have e3:=hce 2 _ rfl;rw [hs1] at e3;exact ⟨⟨h'.bx.ae 2 _ rfl,e1⟩,e3,hce 1 _ rfl,iY ho _,iY ho _⟩
   have hkt:k < ct∧k < g.nt:=by have:=HC.out.nc;omega
   have HDR:Hid (Kept (λ_=>True) v5 v5.drew):=Kept.drew _ _;have k0:=Vi.out v5.drew HDR.out;have k1:=Vi.out v5 (Kept.refl _ _);have Vd:Hid (∀V',Calls Tryz.prog 109 #[.int .i64 s,.int .i64 u] V' λe W'=>e=.returned (.int .i64 ((s+u:Nat):Int))∧W'=V'):=λV'=>vZ s u (by omega) (by omega) V'
   have HF:Hid (∀V',Kept (λ_=>True) v5 V'->Rk g W0 lo G B tb lb ct cl L (g.left L ((l,n)::st)) (.returned (.tuple #[])) ((V'.setCell ⟨b,m * 3+2,none⟩ (.int .i64 ((s+u:Nat):Int))).setCell ⟨b,m * 3+1,none⟩ (.int .i64 ((n:Int)+1)))):=λV' kV=>
    ⟨rfl,T',L,(l,n+1)::st,_,HT2.out.adv hne,MS.next HC.out HM.out (M5.out.kept HC.out kV) (by rw [<- hs1,<- hu1];rfl),g.KT L hne,.inr ⟨b,cap,by rw [List.length_cons,HM.out]⟩,λ_ h=>h⟩
   clear hs1 hu1;go_cut [2] (λt wx=>t=.pointer (some ⟨b,m * 3,none⟩)∧∃V',Kept (λ_=>True) v5 V'∧wx=V'.setCell ⟨b,m * 3+2,none⟩ (.int .i64 ((s+u:Nat):Int)))
   case first=>
    go_region_with (go_at_call 109;refine (Vd.out _).mono ?_;rintro e w9 ⟨rfl,rfl⟩)
    all_goals
     go_wp2_with fail;go_meet
     case rel=>exact ⟨rfl,v5.drew,HDR.out,by rw [Int.natCast_add];rfl⟩
   case rest=>
   obtain ⟨rfl,V',YJ,rfl⟩:=hcut;have KV:=hide YJ;clear k0 k1 HDR YJ;have k0:=Vi.out V' KV.out;have Df:=HF.out V' KV.out;rw [Int.natCast_add] at Df;have Vj:=hide Df;clear Df;have hnb:n<=10000000:=by have:=HKK.out;omega
   go_wp2_with fail;exact bodyPost_end (results_none rfl _ _ _) rfl Vj.out
  .have HF:Hid (Rk g W0 lo G B tb lb ct cl L (g.left L ((l,n)::st)) (.returned (.tuple #[])) v5):=by
    rw [HM.out] at p4;exact ⟨rfl,T,_,_,_,p3,p4,g.KU L _ (by omega) p1 p2,.inr ⟨b',cap',by rw [List.length_cons,List.length_cons,HM.out]⟩,BV (by omega)⟩
   clear p1 p2 p3 p4 ES;go_wp2_with fail;exact bodyPost_end (results_none rfl _ _ _) rfl HF.out
 .have heq:n=g.cnt l:=by
   have:(n:Int)=(g.cnt l:Int):=by simpa using hq
   omega
  clear hq;have HEQ:=hide heq;clear heq
  go_upto_region 3 with fail
  have HDR:Hid (Kept (λ_=>True) v3 v3.drew):=Kept.drew _ _;have k0:=gQ.out v3.drew (K3.out.trans HDR.out);have k1:=gQ.out v3 K3.out;have M3:=hide (HT.out.2.kept HC.out K3.out);have Rm:=hide (M3.out.kept HC.out HDR.out);have x0:=M3.out.lr l hl;have x1:=M3.out.lf l;have y0:=Rm.out.lr l hl;have y1:=Rm.out.lf l;have abh:l < cl:=by have:=HC.out.nc;omega
  go_cut [2] (λs wx=>s=.pointer (some ⟨b,m * 3,none⟩)∧MS g W0 lo G B tb lb ct cl wx T (upd L l (gT g.sT (g.fst l) n)) ((l,n)::st) (.slice (some ⟨b,0,none⟩) (m+1) cap))
  case first=>
   go_region
   all_goals
    go_wp2_with fail;go_meet
    case rel=>exact ⟨rfl,by first | exact Rm.out.mR HC.out hl _ | exact (M3.out.mR HC.out hl _).kept HC.out (Kept.drew _ _)⟩
  case rest=>
  obtain ⟨rfl,hcb⟩:=hcut
  rename World=>v4
  have M4:=hide hcb;clear hcb k0 k1 x0 x1 y0 y1 M3 Rm HDR K3 JE
  go_upto_region 4 with fail
  have YK:Hid (MS g W0 lo G B tb lb ct cl v4.drew T (upd L l (gT g.sT (g.fst l) n)) ((l,n)::st) (.slice (some ⟨b,0,none⟩) (m+1) cap)):=M4.out.kept HC.out (Kept.drew _ _);have x0:=M4.out.bx.ae 4 _ rfl;have x1:=M4.out.bx.live 4;have y0:=YK.out.bx.ae 4 _ rfl;have y1:=YK.out.bx.live 4;have hmc:m<=cap:=by
   have ho:=M4.out.ow;rw [List.length_cons,HM.out] at ho
   have:=(ownsRow_le ho).2.2.1
   omega
  have hwm:IntKind.i64.wrap (m:Int)=(m:Int):=wr1 m (by omega);have HF:Hid (Rk g W0 lo G B tb lb ct cl L (g.left L ((l,n)::st)) (.returned (.tuple #[])) (v4.setCell ⟨B,4,none⟩ (.slice (some ⟨b,0,none⟩) m cap)).drew):=by
   have hV:=M4.out;have ho:=hV.ow;rw [g.lC,List.length_cons,HM.out] at ho;have ho':=Dg ho (by rw [g.rV,HM.out]);rw [<- HM.out];rw [<- HM.out] at ho';exact ⟨rfl,T,_,st,_,HT.out.1.pop HEQ.out,(hV.open HC.out (Kept.refl _ _) ho').kept HC.out (Kept.drew _ _),g.KY L _ (by omega),.inr ⟨b,cap,rfl⟩,BV (by omega)⟩
  go_region
  all_goals
   go_wp2_with fail;exact bodyPost_ret (results_none rfl _ _ _) rfl HF.out
end Go.Proofs.YthfnobboalhihaaGreat
