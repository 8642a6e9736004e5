import Derived.Test.YthfnobboalhihaaGreatXh
namespace Go.Proofs.YthfnobboalhihaaGreat
open Go.RowKit Go.Joins
theorem St.pop {OK OA:Nat->Nat} {RG:Nat->Option Value} {lo G wb fb:Nat} {V:World} {KK AA Q0:List (Nat×Nat)} {p:Nat×Nat} {mk sk ma sa wv:Value} (h:St OK OA RG lo G wb fb V KK AA (Q0++[p]) mk sk ma sa wv):
  ∃r cap,wv=.slice (some ⟨r,0,none⟩) (Q0.length+1) cap∧V.cell? ⟨wb,0,none⟩=some (.slice (some ⟨r,0,none⟩) (Q0.length+1) cap)∧V.frozen? ⟨wb,0,none⟩=false∧V.cell? ⟨r,Q0.length,none⟩=some (.pointer (some ⟨p.1,p.2,none⟩))∧Q0.length+1<=cap∧
   St OK OA RG lo G wb fb (V.setCell ⟨wb,0,none⟩ (.slice (some ⟨r,0,none⟩) Q0.length cap)) KK AA Q0 mk sk ma sa (.slice (some ⟨r,0,none⟩) Q0.length cap)∧Kept (λd=>d≠wb) V (V.setCell ⟨wb,0,none⟩ (.slice (some ⟨r,0,none⟩) Q0.length cap)):=by
 have hq:=h.q;have hlen:(Q0++[p]).length=Q0.length+1:=by simp
 rw [hlen,List.map_append] at hq;have hq2:=hq;rcases hq2.2 with ⟨-,e2⟩ | ⟨r,cap,cur,rfl,hb,hg,hc,hm,hs,ht⟩
 .omega
 have ks:Kept (λd=>d≠wb) V (V.setCell ⟨wb,0,none⟩ (.slice (some ⟨r,0,none⟩) Q0.length cap)):=Kept.setCell _ _ _ _ (λhx=>hx rfl);have hw:=h.hw;have gG:G≠wb:=λe=>hw.2 e.symm
 have hG:=h.k.hg;have hv:=h.k.hv;have cG:∀j,(V.setCell ⟨wb,0,none⟩ (.slice (some ⟨r,0,none⟩) Q0.length cap)).cell? ⟨G,j,none⟩=V.cell? ⟨G,j,none⟩:=λj=>ks.cell (p:=⟨G,j,none⟩) (by show G < _;omega) gG
 have fG:∀j,(V.setCell ⟨wb,0,none⟩ (.slice (some ⟨r,0,none⟩) Q0.length cap)).frozen? ⟨G,j,none⟩=false:=λj=>(ks.frozen (p:=⟨G,j,none⟩) (by show G < _;omega) gG).trans (h.k.gf j)
 have XT:∀d,(mk=.map (some d)∨sk.ownBlock=some d)∨(ma=.map (some d)∨sa.ownBlock=some d)->d≠wb:=λd hd=>by
  obtain ⟨a1,a2,a3⟩:=h.apart
  have:lo<=d:=by
   rcases hd with (e | e) | (e | e)
   .exact (a2 d e).2.2
   .exact az h.k.ow d e
   .exact (a3 d e).2.2
   .exact az h.a.ow d e
  omega
 refine ⟨r,cap,rfl,h.w.ae 0 _ rfl,h.w.live 0,?_,hc,⟨h.k.frame ks (λe he=>h.hl.1 e he) (λd hd=>XT d (.inl hd)) ((cG 0).trans h.k.gm) ((cG 1).trans h.k.gs) fG,h.a.frame ks (λe he=>h.hl.2 e he) (λd hd=>XT d (.inr hd)) ((cG 4).trans h.a.gm) ((cG 5).trans h.a.gs) fG,(h.w.put 0 _ (by simp):Bx _ wb [_]),h.f.kept ks h.hf.2.2,?_,h.dM,h.dS,h.hw,h.hf,h.hl,λj a b c d=>(cG j).trans (h.rg j a b c d)⟩,ks⟩
 .have:=hq.cells (g:=r) rfl Q0.length (kp p) (by simp)
  rwa [addr_add,Nat.zero_add] at this
 .have o1:V.ownsRow lo 55 1 (.slice (some ⟨r,0,none⟩) Q0.length cap) Q0.length (Q0.map kp):=by
   refine ⟨by simp,.inr ⟨r,cap,cur,rfl,hb,hg,by omega,hm,hs,?_⟩⟩
   have:=congrArg (List.take (Q0.length * 1)) ht
   rw [List.take_take,Nat.min_eq_left (by omega)] at this;rw [this,Nat.mul_one];exact List.take_left' (by simp)
  exact aj o1 ks (λc e=>by have e2:r=c:=Option.some.inj e;rw [<- e2];show r≠wb;omega)
theorem St.start {O:Nat->Nat} {lo G wb fb:Nat} {V:World} (hv:lo<=V.heap.size) (hG:G < lo) (hw:wb < lo∧wb≠G) (hf:fb < lo∧fb≠G∧fb≠wb) (lv:Value) (M0:Nat) (bg:Bx V G [.map none,.slice none 0 0,.slice none 0 0,.slice none 0 0,.map none,.slice none 0 0,.slice none 0 0,.slice none 0 0,.slice none 0 0,lv,.map (some M0)]) (bw:Bx V wb [.slice none 0 0]) (bf:Bx V fb [pQ wb]):
  St O O (λj=>V.cell? ⟨G,j,none⟩) lo G wb fb V [] [] [] (.map none) (.slice none 0 0) (.map none) (.slice none 0 0) (.slice none 0 0):=
 ⟨⟨bg.ae 0 _ rfl,bg.ae 1 _ rfl,bg.live,.inl ⟨rfl,rfl⟩,World.ownsRow_nil _ _ _ _,(λe he=>by cases he),hv,hG⟩,⟨bg.ae 4 _ rfl,bg.ae 5 _ rfl,bg.live,.inl ⟨rfl,rfl⟩,World.ownsRow_nil _ _ _ _,(λe he=>by cases he),hv,hG⟩,bw,bf,World.ownsRow_nil _ _ _ _,(λM e=>by cases e),(λb e=>by cases e),hw,hf,⟨(λe he=>by cases he),(λe he=>by cases he)⟩,λ_ _ _ _ _=>rfl⟩
theorem GI.start {O:Nat->Nat} {W:World} {S:Nat->Prop} {F:Fo} {R:List Nat} (hn:R.Nodup):GI O W S [] [] [] [] [] [] R (fH F) (fH F):=
 ⟨rfl,rfl,(λi e r he=>by simp at he),(λi e r he=>by simp at he),(λd hd=>by simp [bY,dw] at hd),(λd hd=>by cases hd),(λd hd=>by simp [bY,dw] at hd),(by simpa using hn),(by simp [bY,dw]),(by simp [bY,dw]),⟨(λr hr=>by cases hr),(λr hr=>by cases hr)⟩,⟨(λd hd=>by simp [bY,dw] at hd),(λi e r he=>by simp at he),(λi e r he=>by simp at he),(λi e r he=>by simp at he)⟩⟩
section
variable {O:Nat->Nat} {RG:Nat->Option Value} {W0:World} {lo G wb fb:Nat} {V:World} {KK AA:List (Nat×Nat)} {KR AR:List Fo} {Q0:List Nd} {d:Nd} {tot:Nat}
theorem GX.take (h:GX O RG W0 (SB W0 lo G wb) lo G wb fb V KK AA KR AR (Q0++[d]) [] [] 0 tot):
  ∃r cap,V.cell? ⟨wb,0,none⟩=some (.slice (some ⟨r,0,none⟩) (Q0.length+1) cap)∧V.frozen? ⟨wb,0,none⟩=false∧V.cell? ⟨r,Q0.length,none⟩=some (.pointer (some ⟨d.b,d.o,none⟩))∧Q0.length+1<=cap∧
   GX O RG W0 (SB W0 lo G wb) lo G wb fb (V.setCell ⟨wb,0,none⟩ (.slice (some ⟨r,0,none⟩) Q0.length cap)) KK AA KR AR Q0 [d] d.x.ah (fH d.x - 1) tot∧d.Ok W0 (SB W0 lo G wb)∧gJ O d.x∧d.x.wt<=1048576∧(∀V',Kept (λd=>d < lo∧d≠G∧d≠wb) W0 V'->bD V' d.x.vals d.b d.o):=by
 obtain ⟨⟨mk,sk,ma,sa,wv,st⟩,gi,hk⟩:=h;rw [List.map_append] at st;obtain ⟨r,cap,-,h2,h3,h4,h5,h6,h7⟩:=st.pop;rw [List.length_map] at h2 h4 h5 h6 h7;obtain ⟨g1,g2⟩:=gi.pop;obtain ⟨o1,o2⟩:=gi.ok d (gi.qs d (by simp));exact ⟨r,cap,h2,h3,h4,h5,⟨⟨mk,sk,ma,sa,_,h6⟩,g1,hk.trans (h7.mono (λ_ _ hd=>hd.2.2))⟩,o1,o2,gi.tw.d d (gi.qs d (by simp)),λV' k=>o1.ae.kept k o1.at_.2.1 ⟨Ng o1.at_.2.2.1,o1.at_.2.2.2.1,o1.at_.2.2.2.2⟩⟩
end
section
variable {O:Nat->Nat} {RG:Nat->Option Value} {W0:World} {lo G wb fb:Nat} {V:World} {KK AA:List (Nat×Nat)} {KR AR:List Fo} {Q0:List Nd} {d:Nd} {tot:Nat} {k:Int} {nm:ByteArray} {mn:Bool} {la:Option Addr} {ln lc:Nat} {lk:Fo} {na:Option Addr} {nn nc:Nat} {nk:Fo} {ka:Option Addr} {kn kc:Nat} {kk:Fo} {aa:Option Addr} {an ac:Nat} {ak:Fo}
theorem GX.kids (h:GX O RG W0 (SB W0 lo G wb) lo G wb fb V KK AA KR AR Q0 [d] d.x.ah (fH d.x - 1) tot) (hx:d.x=.v (.int .i64 k) (.v (.string nm) (.v (.bool mn) (.s la ln lc lk (.s na nn nc nk (.s ka kn kc kk (.s aa an ac ak .nil))))))) (hf:Fit E kk (rep (E 3) kn)) (hs:d.x.av W0 (SB W0 lo G wb)) (ho:gJ O d.x) (ht:tot<=4000000) (hw:d.x.wt<=1048576):
  Calls Tryz.prog 66 #[.pointer (some ⟨G,0,none⟩),.slice ka kn kc,pQ wb] V λe V'=>e=.returned (.tuple #[])∧∃K2 R2 Q2,GX O RG W0 (SB W0 lo G wb) lo G wb fb V' (KK++K2) AA (KR++R2) AR (Q0++Q2) [d] ((blk aa ak.len++ak.ah)++[]) (mh ak+0) tot∧(0 < kn->∃i b:Nat,ka=some ⟨b,O b,none⟩∧(KK++K2)[i]? =some (b,kn)∧(KR++R2)[i]? =some kk)∧(Q2.map (λd=>fH d.x)).sum=fH kk:=by
 rw [hx] at h hs ho hw;simp only [Fo.wt] at hw;obtain ⟨st,gi,hk⟩:=h;have IP:GI O W0 (SB W0 lo G wb) KK AA KR AR Q0 [d] ((blk ka kk.len++kk.ah)++((blk aa ak.len++ak.ah)++[])) (fH kk+(mh ak+0)) tot:=by
  have:=gi.less (R':=(blk ka kk.len++kk.ah)++((blk aa ak.len++ak.ah)++[])) (by
   simp only [Fo.ah];exact List.Sublist.trans (List.sublist_append_right _ _) (List.sublist_append_right _ _))
  rw [qp,kI] at this;have e:1+fH kk+mh ak+0 - 1=fH kk+(mh ak+0):=by omega
  rw [e] at this;exact this
 simp only [gJ] at ho;refine (BZ ⟨st,IP,hk⟩ hf hs.2.2.1 ⟨ho.2.2.2.2.1,ho.2.2.2.2.2.1,trivial⟩ ht (by omega)).mono ?_;rintro e V' ⟨rfl,K2,R2,Q2,g1,g2,g3⟩;exact ⟨rfl,_,_,Q2,g1,g2,g3⟩
theorem GX.alts (h:GX O RG W0 (SB W0 lo G wb) lo G wb fb V KK AA KR AR Q0 [d] ((blk aa ak.len++ak.ah)++[]) (mh ak+0) tot) (hx:d.x=.v (.int .i64 k) (.v (.string nm) (.v (.bool mn) (.s la ln lc lk (.s na nn nc nk (.s ka kn kc kk (.s aa an ac ak .nil))))))) (hf:Fit E ak (rep (E 2) an)) (hs:d.x.av W0 (SB W0 lo G wb)) (ho:gJ O d.x) (ht:tot<=4000000) (hw:d.x.wt<=1048576)
  (hd:0 < kn->∃i b:Nat,ka=some ⟨b,O b,none⟩∧KK[i]? =some (b,kn)∧KR[i]? =some kk):
  Calls Tryz.prog 67 #[.pointer (some ⟨G,4,none⟩),.slice aa an ac,Ib fb] V λe V'=>e=.returned (.tuple #[])∧∃Dp RX Q2,GX O RG W0 (SB W0 lo G wb) lo G wb fb V' KK Dp KR RX (Q0++Q2) [] [] 0 tot∧(Q2.map (λd=>fH d.x)).sum=mh ak:=by
 rw [hx] at hs ho hw;simp only [Fo.wt] at hw;simp only [gJ] at ho;refine (Lm h hf hs.2.2.2.1 ⟨ho.2.2.2.2.2.2.1,ho.2.2.2.2.2.2.2.1,trivial⟩ ht (by omega)).mono ?_;rintro e V' ⟨rfl,K2,R2,Q2,⟨st,gi,hk⟩,g2,g3⟩;refine ⟨rfl,_,_,Q2,⟨st,gi.done ?_,hk⟩,g3⟩;rw [hx];exact ⟨hd,g2⟩
end
theorem Aj {O:Nat->Nat} {RG:Nat->Option Value} {W0:World} {S:Nat->Prop} {lo G wb fb:Nat} {V V':World} {KK AA:List (Nat×Nat)} {KR AR:List Fo} {Qd X:List Nd} {R:List Nat} {c tot:Nat} (h:GX O RG W0 S lo G wb fb V KK AA KR AR Qd X R c tot) (k:Kept (λ_=>True) V V'):GX O RG W0 S lo G wb fb V' KK AA KR AR Qd X R c tot:=by
 obtain ⟨⟨mk,sk,ma,sa,wv,st⟩,gi,hk⟩:=h;exact ⟨⟨mk,sk,ma,sa,wv,st.kept k⟩,gi,hk.trans (k.mono (λ_ _ _=>trivial))⟩
structure RT (W:World) (rb:Nat) (F:Fo):Prop where
 fit:Fit E F (rep (E 3) 1)
 sub:Fo.av W (λc=>c < W.heap.size) (.s (some ⟨rb,0,none⟩) 1 1 F .nil)
 nd:(Fo.s (some ⟨rb,0,none⟩) 1 1 F .nil).ah.Nodup
 live:Live W (Fo.s (some ⟨rb,0,none⟩) 1 1 F .nil).ah
 tc:fH F<=4000000
 tw:1+F.wt<=1048577
 ne:∀c∈(Fo.s (some ⟨rb,0,none⟩) 1 1 F .nil).ah,c+4≠W.heap.size
theorem RT.len {W:World} {rb:Nat} {F:Fo} (h:RT W rb F):F.len=7:=by have:=Fit.len h.fit;rw [dz] at this;simpa [show (E 3).length=7 from rfl] using this
structure WB (W V:World) (G wb fb M0:Nat):Prop where
 kp:Below W.heap.size W V
 sz:V.heap.size=W.heap.size+5
 eG:G=W.heap.size+2
 ew:wb=W.heap.size+3
 ef:fb=W.heap.size+4
 eM:M0=W.heap.size+1
 bg:Bx V G [.map none,.slice none 0 0,.slice none 0 0,.slice none 0 0,.map none,.slice none 0 0,.slice none 0 0,.slice none 0 0,.slice none 0 0,.slice (some ⟨W.heap.size,0,none⟩) 1 1,.map (some M0)]
 bw:Bx V wb [.slice none 0 0]
 bf:Bx V fb [pQ wb]
 lm:LM V M0 [(0,0)]
 bl:V.heap[W.heap.size]? =some (.cells #[.int .i64 0,.int .i64 0] 130)
theorem RT.start {W V:World} {rb:Nat} {F:Fo} {G wb fb M0:Nat} (h:RT W rb F) (b:WB W V G wb fb M0):
  ∃O:Nat->Nat,O rb=0∧gJ O (.s (some ⟨rb,0,none⟩) 1 1 F .nil)∧Fo.Sub V (SB V (W.heap.size+5) G wb) (some ⟨rb,0,none⟩) 1 1 F∧
   GX O (λj=>V.cell? ⟨G,j,none⟩) V (SB V (W.heap.size+5) G wb) (W.heap.size+5) G wb fb V [] [] [] [] [] [] ((blk (some ⟨rb,0,none⟩) F.len++F.ah)++[]) (fH F+0) (fH F):=by
 obtain ⟨O,ho⟩:=vO h.sub h.nd;have hl:=h.len;have eo:O rb=0:=ho.1 (by omega) rb 0 rfl;have hsb:∀c∈(Fo.s (some ⟨rb,0,none⟩) 1 1 F .nil).ah,SB V (W.heap.size+5) G wb c:=λc hc=>by
  have h1:=h.sub.bu c hc;obtain ⟨o,v,hv⟩:=sO h.sub c hc;have e1:=b.eG;have e2:=b.ew;have hne:=h.ne c hc;refine ⟨aO.of (o:=o) (v:=v) (λj=>(b.kp.frozen (p:=⟨c,j,none⟩) h1).trans (h.live c hc j)) ((b.kp.cell (p:=⟨c,o,none⟩) h1).trans hv),?_,⟨?_,?_⟩,?_,?_⟩
  .have:=b.sz;omega
  .omega
  .omega
  .omega
  .omega
 have hs:Fo.av V (SB V (W.heap.size+5) G wb) (.s (some ⟨rb,0,none⟩) 1 1 F .nil):=((h.sub.own).below b.kp (λc hc=>h.sub.bu c hc)).mono hsb;have e1:=b.eG;have e2:=b.ew;have e3:=b.ef;refine ⟨O,eo,ho,hs.1,⟨_,_,_,_,_,St.start (by have:=b.sz;omega) (by omega) ⟨by omega,by omega⟩ ⟨by omega,by omega,by omega⟩ _ M0 b.bg b.bw b.bf⟩,?_,Kept.refl _ _⟩;exact GI.start h.nd
end Go.Proofs.YthfnobboalhihaaGreat
