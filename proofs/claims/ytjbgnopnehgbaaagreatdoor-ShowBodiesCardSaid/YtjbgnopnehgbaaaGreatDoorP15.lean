/- Lemmas. -/
import Derived.Test.YtjbgnopnehgbaaaGreatDoorP33
set_option linter.unusedVariables false
set_option linter.unusedSimpArgs false
set_option maxHeartbeats 16000000
set_option maxRecDepth 100000
namespace Go.Proofs.YtjbgnopnehgbaaaGreatDoor
open Go.RowKit
theorem zk (F:Nat→Prop) (a:Addr) (op:Int) (nm md:List UInt8) (nu:Int) (ys:Bool) (ks:List Sx) (ps:Int) (q:List Value) (w:World) (cg:cM w) (hc:CAt w a q) (hx:SAt F w (.mk op nm md nu ys ks ps) q) (h1:nm.length≤60000) (h2:md.length≤60000) (hZ:nu.natAbs<Zd.Lim) (hks:ks.length≤1000000) (hF:∀k,F k→k<w.heap.size) (Rr:a.block<w.heap.size):
  Calls Tryz.prog 66 #[.pointer (some a)] w (dY (iR op nm md nu ys ks.length) w):=by
 have kept:∀W,w.grownBy W none→CAt W a q∧SAt F W (.mk op nm md nu ys ks ps) q:=fun W hg=>⟨hc.same (S:=fun _=>False) (Fr2.none hg) (fun h=>h),hx.kept hg⟩
 have HC:=zh (fun W (_:w.grownBy W none)=>zp op ks.length W)
 have HN:=zh (fun W (hg:w.grownBy W none)=>yY F a op nm md nu ys ks ps q W (cg.kept hg) (kept W hg).1 (kept W hg).2 h1 h2)
 have HU:=zh (fun W (hg:w.grownBy W none)=>vW F a op nm md nu ys ks ps q W (kept W hg).1 (kept W hg).2 hZ)
 simp only [SAt] at hx
 obtain⟨s,pw,nw,cw,pk,ck,rows,rfl,-⟩:=hx
 obtain⟨g,off,rfl,hg,hc⟩:=hc
 have c0:=hc 0 _ rfl
 have c4:=hc 5 _ rfl
 have c5:=hc 6 _ rfl
 rw [Nat.add_zero] at c0
 obtain⟨n,hn⟩:∃n,ks.length=n:=⟨_,rfl⟩
 rw [hn] at HC c5 ⊢
 have hb:iR op nm md nu ys n=(inB op n && (pZ op nm md && (B9 op nu && (decide (op=2) || !ys)))):=by
  unfold iR inB;simp only [Bool.and_assoc]
 rw [hb]
 obtain⟨b1,fw⟩:∃b,inB op n=b:=⟨_,rfl⟩
 obtain⟨b2,dC⟩:∃b,pZ op nm md=b:=⟨_,rfl⟩
 obtain⟨b3,ig⟩:∃b,B9 op nu=b:=⟨_,rfl⟩
 rw [fw] at HC
 rw [dC] at HN
 rw [ig] at HU
 rw [fw,dC,ig]
 have HC0:=zh c0;have YS:=zh c4;have HC5:=zh c5
 clear hb fw dC ig kept hn hc h1 h2 hZ cg hF Rr
 go_enter Tryz.func66,Tryz.ntmps66
 go_wp2_with fail
 obtain⟨e2,Lk⟩:∃e,(op == 2)=e:=⟨_,rfl⟩
 have hd:decide (op=2)=e2:=by
  rw [←Lk]
  by_cases h:op=2
  ·subst h;rfl
  ·rw [decide_eq_false h];exact(beq_eq_false_iff_ne.2 h).symm
 rw [hd]
 clear hd
 have hw:b1=false∨(b1=true∧b2=false)∨(b1=true∧b2=true∧b3=false)∨(b1=true∧b2=true∧b3=true∧e2=true)∨(b1=true∧b2=true∧b3=true∧e2=false):=by
  cases b1<;>cases b2<;>cases b3<;>cases e2<;>simp
 rcases hw with rfl | ⟨rfl,rfl⟩ | ⟨rfl,rfl,rfl⟩ | ⟨rfl,rfl,rfl,rfl⟩ | ⟨rfl,rfl,rfl,rfl⟩
 all_goals
  refine zY (S:=fun w'=>w'.cell? ⟨g,off,none⟩=some (.int .i64 op)∧w'.cell? ⟨g,off+5,none⟩=some (.bool ys)∧w'.cell? ⟨g,off+6,none⟩=some (.slice pk n ck)) (z:=32) (by kernel_rfl) (by first | with_reducible exact⟨c0,c4,c5⟩ | go_keep) (fun hHeld=>?_)
  refine gh (i:=0) (by simp only [List.getElem?_toArray,List.getElem?_cons_succ,List.getElem?_cons_zero];rfl) (by kernel_rfl) (by kernel_rfl) (by kernel_rfl) (by kernel_rfl) (by exact fun _ _ _ h=>h) (by rfl) (by intro w hSw;obtain⟨Uh,TR,rG⟩:=hSw;go_simp;try with_reducible rfl) hHeld ?_
  try simp only [Act.put,List.setIfInBounds_toArray,List.set_cons_zero,List.set_cons_succ]
  refine gh (i:=1) (by simp only [List.getElem?_toArray,List.getElem?_cons_succ,List.getElem?_cons_zero];rfl) (by kernel_rfl) (by kernel_rfl) (by kernel_rfl) (by kernel_rfl) (by exact fun _ _ _ h=>h) (by rfl) (by intro w hSw;obtain⟨Uh,TR,rG⟩:=hSw;go_simp;try with_reducible rfl) hHeld ?_
  try simp only [Act.put,List.setIfInBounds_toArray,List.set_cons_zero,List.set_cons_succ]
  refine gh (i:=2) (by simp only [List.getElem?_toArray,List.getElem?_cons_succ,List.getElem?_cons_zero];rfl) (by kernel_rfl) (by kernel_rfl) (by kernel_rfl) (by kernel_rfl) (by exact fun _ _ _ h=>h) (by rfl) (by intro w hSw;obtain⟨Uh,TR,rG⟩:=hSw;go_simp;try with_reducible rfl) hHeld ?_
  try simp only [Act.put,List.setIfInBounds_toArray,List.set_cons_zero,List.set_cons_succ]
  refine gh (i:=3) (by simp only [List.getElem?_toArray,List.getElem?_cons_succ,List.getElem?_cons_zero];rfl) (by kernel_rfl) (by kernel_rfl) (by kernel_rfl) (by kernel_rfl) (by exact fun _ _ _ h=>h) (by rfl) (by intro w hSw;obtain⟨Uh,TR,rG⟩:=hSw;go_simp;try with_reducible rfl) hHeld ?_
  try simp only [Act.put,List.setIfInBounds_toArray,List.set_cons_zero,List.set_cons_succ]
  refine gh (i:=4) (by simp only [List.getElem?_toArray,List.getElem?_cons_succ,List.getElem?_cons_zero];rfl) (by kernel_rfl) (by kernel_rfl) (by kernel_rfl) (by kernel_rfl) (by exact fun _ _ _ h=>h) (by rfl) (by intro w hSw;obtain⟨Uh,TR,rG⟩:=hSw;go_simp;try with_reducible rfl) hHeld ?_
  try simp only [Act.put,List.setIfInBounds_toArray,List.set_cons_zero,List.set_cons_succ]
  refine gh (i:=5) (by simp only [List.getElem?_toArray,List.getElem?_cons_succ,List.getElem?_cons_zero];rfl) (by kernel_rfl) (by kernel_rfl) (by kernel_rfl) (by kernel_rfl) (by exact fun _ _ _ h=>h) (by rfl) (by intro w hSw;obtain⟨Uh,TR,rG⟩:=hSw;go_simp;try with_reducible rfl) hHeld ?_
  try simp only [Act.put,List.setIfInBounds_toArray,List.set_cons_zero,List.set_cons_succ]
  refine gh (i:=6) (by simp only [List.getElem?_toArray,List.getElem?_cons_succ,List.getElem?_cons_zero];rfl) (by kernel_rfl) (by kernel_rfl) (by kernel_rfl) (by kernel_rfl) (by exact fun _ _ _ h=>h) (by rfl) (by intro w hSw;obtain⟨Uh,TR,rG⟩:=hSw;go_simp;try with_reducible rfl) hHeld ?_
  try simp only [Act.put,List.setIfInBounds_toArray,List.set_cons_zero,List.set_cons_succ]
  refine gh (i:=7) (by simp only [List.getElem?_toArray,List.getElem?_cons_succ,List.getElem?_cons_zero];rfl) (by kernel_rfl) (by kernel_rfl) (by kernel_rfl) (by kernel_rfl) (by exact fun _ _ _ h=>h) (by rfl) (by intro w hSw;obtain⟨Uh,TR,rG⟩:=hSw;go_simp;try with_reducible rfl) hHeld ?_
  try simp only [Act.put,List.setIfInBounds_toArray,List.set_cons_zero,List.set_cons_succ]
  refine gh (i:=8) (by simp only [List.getElem?_toArray,List.getElem?_cons_succ,List.getElem?_cons_zero];rfl) (by kernel_rfl) (by kernel_rfl) (by kernel_rfl) (by kernel_rfl) (by exact fun _ _ _ h=>h) (by rfl) (by intro w hSw;obtain⟨Uh,TR,rG⟩:=hSw;go_simp;try with_reducible rfl) hHeld ?_
  try simp only [Act.put,List.setIfInBounds_toArray,List.set_cons_zero,List.set_cons_succ]
  refine br (i:=9) (by kernel_rfl) (by simp only [List.getElem?_toArray,List.getElem?_cons_succ,List.getElem?_cons_zero];rfl) (fun K hK=>?_)
  go_simp
  go_at_call 100
  refine(HC.out _ (by repeat (first | with_reducible exact ad _ _ | with_reducible exact eg.out | with_reducible exact cz.out | with_reducible exact cZ.out | with_reducible refine aF ?_ | with_reducible refine ap ?_ _ | with_reducible refine ae ?_ _))).mono ?_
  rintro e w1 ⟨rfl,bI⟩
  have cZ:Hid (w.grownBy w1 none):=zh (aa (by repeat (first | with_reducible exact ad _ _ | with_reducible exact eg.out | with_reducible exact cz.out | with_reducible exact cZ.out | with_reducible refine aF ?_ | with_reducible refine ap ?_ _ | with_reducible refine ae ?_ _)) bI)
  clear bI
  have c0:=cZ.out.cell HC0.out (by simp)
  have c4:=cZ.out.cell YS.out (by simp)
  have c5:=cZ.out.cell HC5.out (by simp)
  refine hK.out _ _ (fun _=>(by first | with_reducible exact⟨c0,c4,c5⟩ | go_keep)) (fun hH=>?_)
  replace hHeld:=hH (by decide)
  clear hK hH K
  try simp only [Act.put,List.setIfInBounds_toArray,List.set_cons_zero,List.set_cons_succ]
  refine br (i:=10) (by kernel_rfl) (by simp only [List.getElem?_toArray,List.getElem?_cons_succ,List.getElem?_cons_zero];rfl) (fun K hK=>?_)
  go_simp
  refine hK.out _ _ (fun _=>(by first | with_reducible exact⟨c0,c4,c5⟩ | go_keep)) (fun hH=>?_)
  replace hHeld:=hH (by decide)
  clear hK hH K
  try simp only [Act.put,List.setIfInBounds_toArray,List.set_cons_zero,List.set_cons_succ]
  refine br (i:=11) (by kernel_rfl) (by simp only [List.getElem?_toArray,List.getElem?_cons_succ,List.getElem?_cons_zero];rfl) (fun K hK=>?_)
  go_simp
  refine hK.out _ _ (fun _=>(by first | with_reducible exact⟨c0,c4,c5⟩ | go_keep)) (fun hH=>?_)
  replace hHeld:=hH (by decide)
  clear hK hH K
  try simp only [Act.put,List.setIfInBounds_toArray,List.set_cons_zero,List.set_cons_succ]
  refine br (i:=12) (by kernel_rfl) (by simp only [List.getElem?_toArray,List.getElem?_cons_succ,List.getElem?_cons_zero];rfl) (fun K hK=>?_)
  first
  | (go_simp
     go_at_call 101
     refine(HN.out _ (by repeat (first | with_reducible exact ad _ _ | with_reducible exact eg.out | with_reducible exact cz.out | with_reducible exact cZ.out | with_reducible refine aF ?_ | with_reducible refine ap ?_ _ | with_reducible refine ae ?_ _))).mono ?_
     rintro e w2 ⟨rfl,bT⟩
     have cz:Hid (w.grownBy w2 none):=zh (aa (by repeat (first | with_reducible exact ad _ _ | with_reducible exact eg.out | with_reducible exact cz.out | with_reducible exact cZ.out | with_reducible refine aF ?_ | with_reducible refine ap ?_ _ | with_reducible refine ae ?_ _)) bT)
     clear bT
     have c0:=cz.out.cell HC0.out (by simp)
     have c4:=cz.out.cell YS.out (by simp)
     have c5:=cz.out.cell HC5.out (by simp))
  | go_simp
  refine hK.out _ _ (fun _=>(by first | with_reducible exact⟨c0,c4,c5⟩ | go_keep)) (fun hH=>?_)
  replace hHeld:=hH (by decide)
  clear hK hH K
  try simp only [Act.put,List.setIfInBounds_toArray,List.set_cons_zero,List.set_cons_succ]
  refine br (i:=13) (by kernel_rfl) (by simp only [List.getElem?_toArray,List.getElem?_cons_succ,List.getElem?_cons_zero];rfl) (fun K hK=>?_)
  go_simp
  refine hK.out _ _ (fun _=>(by first | with_reducible exact⟨c0,c4,c5⟩ | go_keep)) (fun hH=>?_)
  replace hHeld:=hH (by decide)
  clear hK hH K
  try simp only [Act.put,List.setIfInBounds_toArray,List.set_cons_zero,List.set_cons_succ]
  refine br (i:=14) (by kernel_rfl) (by simp only [List.getElem?_toArray,List.getElem?_cons_succ,List.getElem?_cons_zero];rfl) (fun K hK=>?_)
  go_simp
  refine hK.out _ _ (fun _=>(by first | with_reducible exact⟨c0,c4,c5⟩ | go_keep)) (fun hH=>?_)
  replace hHeld:=hH (by decide)
  clear hK hH K
  try simp only [Act.put,List.setIfInBounds_toArray,List.set_cons_zero,List.set_cons_succ]
  refine br (i:=15) (by kernel_rfl) (by simp only [List.getElem?_toArray,List.getElem?_cons_succ,List.getElem?_cons_zero];rfl) (fun K hK=>?_)
  go_simp
  refine hK.out _ _ (fun _=>(by first | with_reducible exact⟨c0,c4,c5⟩ | go_keep)) (fun hH=>?_)
  replace hHeld:=hH (by decide)
  clear hK hH K
  try simp only [Act.put,List.setIfInBounds_toArray,List.set_cons_zero,List.set_cons_succ]
  refine br (i:=16) (by kernel_rfl) (by simp only [List.getElem?_toArray,List.getElem?_cons_succ,List.getElem?_cons_zero];rfl) (fun K hK=>?_)
  first
  | (go_simp
     go_at_call 102
     refine(HU.out _ (by repeat (first | with_reducible exact ad _ _ | with_reducible exact eg.out | with_reducible exact cz.out | with_reducible exact cZ.out | with_reducible refine aF ?_ | with_reducible refine ap ?_ _ | with_reducible refine ae ?_ _))).mono ?_
     rintro e w3 ⟨rfl,fM⟩
     have eg:Hid (w.grownBy w3 none):=zh (aa (by repeat (first | with_reducible exact ad _ _ | with_reducible exact eg.out | with_reducible exact cz.out | with_reducible exact cZ.out | with_reducible refine aF ?_ | with_reducible refine ap ?_ _ | with_reducible refine ae ?_ _)) fM)
     clear fM
     have c0:=eg.out.cell HC0.out (by simp)
     have c4:=eg.out.cell YS.out (by simp)
     have c5:=eg.out.cell HC5.out (by simp))
  | go_simp
  refine hK.out _ _ (fun _=>(by first | with_reducible exact⟨c0,c4,c5⟩ | go_keep)) (fun hH=>?_)
  replace hHeld:=hH (by decide)
  clear hK hH K
  try simp only [Act.put,List.setIfInBounds_toArray,List.set_cons_zero,List.set_cons_succ]
  refine br (i:=17) (by kernel_rfl) (by simp only [List.getElem?_toArray,List.getElem?_cons_succ,List.getElem?_cons_zero];rfl) (fun K hK=>?_)
  go_simp
  refine hK.out _ _ (fun _=>(by first | with_reducible exact⟨c0,c4,c5⟩ | go_keep)) (fun hH=>?_)
  replace hHeld:=hH (by decide)
  clear hK hH K
  try simp only [Act.put,List.setIfInBounds_toArray,List.set_cons_zero,List.set_cons_succ]
  refine br (i:=18) (by kernel_rfl) (by simp only [List.getElem?_toArray,List.getElem?_cons_succ,List.getElem?_cons_zero];rfl) (fun K hK=>?_)
  go_simp
  refine hK.out _ _ (fun _=>(by first | with_reducible exact⟨c0,c4,c5⟩ | go_keep)) (fun hH=>?_)
  replace hHeld:=hH (by decide)
  clear hK hH K
  try simp only [Act.put,List.setIfInBounds_toArray,List.set_cons_zero,List.set_cons_succ]
  refine br (i:=19) (by kernel_rfl) (by simp only [List.getElem?_toArray,List.getElem?_cons_succ,List.getElem?_cons_zero];rfl) (fun K hK=>?_)
  go_simp
  refine hK.out _ _ (fun _=>(by first | with_reducible exact⟨c0,c4,c5⟩ | go_keep)) (fun hH=>?_)
  replace hHeld:=hH (by decide)
  clear hK hH K
  try simp only [Act.put,List.setIfInBounds_toArray,List.set_cons_zero,List.set_cons_succ]
  refine br (i:=20) (by kernel_rfl) (by simp only [List.getElem?_toArray,List.getElem?_cons_succ,List.getElem?_cons_zero];rfl) (fun K hK=>?_)
  go_simp
  refine hK.out _ _ (fun _=>(by first | with_reducible exact⟨c0,c4,c5⟩ | go_keep)) (fun hH=>?_)
  replace hHeld:=hH (by decide)
  clear hK hH K
  try simp only [Act.put,List.setIfInBounds_toArray,List.set_cons_zero,List.set_cons_succ]
  refine br (i:=21) (by kernel_rfl) (by simp only [List.getElem?_toArray,List.getElem?_cons_succ,List.getElem?_cons_zero];rfl) (fun K hK=>?_)
  go_simp
  refine hK.out _ _ (fun _=>(by first | with_reducible exact⟨c0,c4,c5⟩ | go_keep)) (fun hH=>?_)
  replace hHeld:=hH (by decide)
  clear hK hH K
  try simp only [Act.put,List.setIfInBounds_toArray,List.set_cons_zero,List.set_cons_succ]
  refine br (i:=22) (by kernel_rfl) (by simp only [List.getElem?_toArray,List.getElem?_cons_succ,List.getElem?_cons_zero];rfl) (fun K hK=>?_)
  go_simp
  refine hK.out _ _ (fun _=>(by first | with_reducible exact⟨c0,c4,c5⟩ | go_keep)) (fun hH=>?_)
  replace hHeld:=hH (by decide)
  clear hK hH K
  try simp only [Act.put,List.setIfInBounds_toArray,List.set_cons_zero,List.set_cons_succ]
  refine br (i:=23) (by kernel_rfl) (by simp only [List.getElem?_toArray,List.getElem?_cons_succ,List.getElem?_cons_zero];rfl) (fun K hK=>?_)
  go_simp
  refine hK.out _ _ (fun _=>(by first | with_reducible exact⟨c0,c4,c5⟩ | go_keep)) (fun hH=>?_)
  replace hHeld:=hH (by decide)
  clear hK hH K
  try simp only [Act.put,List.setIfInBounds_toArray,List.set_cons_zero,List.set_cons_succ]
  refine br (i:=24) (by kernel_rfl) (by simp only [List.getElem?_toArray,List.getElem?_cons_succ,List.getElem?_cons_zero];rfl) (fun K hK=>?_)
  go_simp
  refine hK.out _ _ (fun _=>(by first | with_reducible exact⟨c0,c4,c5⟩ | go_keep)) (fun hH=>?_)
  replace hHeld:=hH (by decide)
  clear hK hH K
  try simp only [Act.put,List.setIfInBounds_toArray,List.set_cons_zero,List.set_cons_succ]
  refine br (i:=25) (by kernel_rfl) (by simp only [List.getElem?_toArray,List.getElem?_cons_succ,List.getElem?_cons_zero];rfl) (fun K hK=>?_)
  go_simp
  refine hK.out _ _ (fun _=>(by first | with_reducible exact⟨c0,c4,c5⟩ | go_keep)) (fun hH=>?_)
  replace hHeld:=hH (by decide)
  clear hK hH K
  try simp only [Act.put,List.setIfInBounds_toArray,List.set_cons_zero,List.set_cons_succ]
  refine br (i:=26) (by kernel_rfl) (by simp only [List.getElem?_toArray,List.getElem?_cons_succ,List.getElem?_cons_zero];rfl) (fun K hK=>?_)
  go_simp
  refine hK.out _ _ (fun _=>(by first | with_reducible exact⟨c0,c4,c5⟩ | go_keep)) (fun hH=>?_)
  replace hHeld:=hH (by decide)
  clear hK hH K
  try simp only [Act.put,List.setIfInBounds_toArray,List.set_cons_zero,List.set_cons_succ]
  refine br (i:=27) (by kernel_rfl) (by simp only [List.getElem?_toArray,List.getElem?_cons_succ,List.getElem?_cons_zero];rfl) (fun K hK=>?_)
  go_simp
  refine hK.out _ _ (fun _=>(by first | with_reducible exact⟨c0,c4,c5⟩ | go_keep)) (fun hH=>?_)
  replace hHeld:=hH (by decide)
  clear hK hH K
  try simp only [Act.put,List.setIfInBounds_toArray,List.set_cons_zero,List.set_cons_succ]
  refine br (i:=28) (by kernel_rfl) (by simp only [List.getElem?_toArray,List.getElem?_cons_succ,List.getElem?_cons_zero];rfl) (fun K hK=>?_)
  go_simp
  refine hK.out _ _ (fun _=>(by first | with_reducible exact⟨c0,c4,c5⟩ | go_keep)) (fun hH=>?_)
  replace hHeld:=hH (by decide)
  clear hK hH K
  try simp only [Act.put,List.setIfInBounds_toArray,List.set_cons_zero,List.set_cons_succ]
  refine br (i:=29) (by kernel_rfl) (by simp only [List.getElem?_toArray,List.getElem?_cons_succ,List.getElem?_cons_zero];rfl) (fun K hK=>?_)
  go_simp
  refine hK.out _ _ (fun _=>(by first | with_reducible exact⟨c0,c4,c5⟩ | go_keep)) (fun hH=>?_)
  replace hHeld:=hH (by decide)
  clear hK hH K
  try simp only [Act.put,List.setIfInBounds_toArray,List.set_cons_zero,List.set_cons_succ]
  refine br (i:=30) (by kernel_rfl) (by simp only [List.getElem?_toArray,List.getElem?_cons_succ,List.getElem?_cons_zero];rfl) (fun K hK=>?_)
  go_simp
  refine hK.out _ _ (fun _=>(by first | with_reducible exact⟨c0,c4,c5⟩ | go_keep)) (fun hH=>?_)
  replace hHeld:=hH (by decide)
  clear hK hH K
  try simp only [Act.put,List.setIfInBounds_toArray,List.set_cons_zero,List.set_cons_succ]
  refine br (i:=31) (by kernel_rfl) (by simp only [List.getElem?_toArray,List.getElem?_cons_succ,List.getElem?_cons_zero];rfl) (fun K hK=>?_)
  go_simp
  refine hK.out _ _ (fun _=>(by first | with_reducible exact⟨c0,c4,c5⟩ | go_keep)) (fun hH=>?_)
  replace hHeld:=hH (by decide)
  clear hK hH K
  try simp only [Act.put,List.setIfInBounds_toArray,List.set_cons_zero,List.set_cons_succ]
  refine br (i:=32) (by kernel_rfl) (by simp only [List.getElem?_toArray,List.getElem?_cons_succ,List.getElem?_cons_zero];rfl) (fun K hK=>?_)
  go_simp
  refine hK.out _ _ (fun h=>absurd rfl h) (fun _=>?_)
  clear hK K
  refine On (by kernel_rfl) ?_
  go_wp2_with fail
  go_ret
  exact⟨by first | (simp;done) | (have h3:=beq_eq_false_iff_ne.1 Lk;simp [h3];done) | (have h3:=beq_iff_eq.1 Lk;simp [h3]),by first | exact eg.out | exact cz.out | exact cZ.out⟩
end Go.Proofs.YtjbgnopnehgbaaaGreatDoor
