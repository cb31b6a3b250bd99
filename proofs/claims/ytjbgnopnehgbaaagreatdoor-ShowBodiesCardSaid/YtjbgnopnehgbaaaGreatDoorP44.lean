/- Lemmas. -/
import Derived.Test.YtjbgnopnehgbaaaGreatDoorP41
set_option linter.unusedVariables false
set_option linter.unusedSimpArgs false
namespace Go.Proofs.YtjbgnopnehgbaaaGreatDoor
open Go.RowKit
abbrev pe (bb:Nat) (out:List Value) (w:World):Prop:=Lib.IsBuilder 80 5 bb bb out w
theorem bj.bld {S:Nat→Prop} {B b bb:Nat} {w:World} {R:List (List Value)} {out:List Value} (h:bj S B b w R) (hp:pe bb out w):
  ∃S2:Nat→Prop,(∀k,S k→S2 k)∧bj S2 B b w R∧∀w',Fr2 (fun k=>¬S2 k) w w'→pe bb out w':=by
 have hv:∃p v,w.heap[bb]? = some (.cells #[p,v] 80 (0,0))∧w.ownsRow bb 5 1 v out.length out∧v.ownBlock≠some bb∧(p=.pointer none∨p=.pointer (some ⟨bb,0,none⟩)):=by
  rcases hp with ⟨-,v,h1,h2,h3⟩ | ⟨-,v,h1,h2,h3⟩
  ·exact⟨_,v,h1,h2,h3,.inl rfl⟩
  ·exact⟨_,v,h1,h2,h3,.inr rfl⟩
 obtain⟨p,v,h1,h2,h3,h4⟩:=hv
 obtain⟨u,hb,hO,kK,hB,p8,pK,mp⟩:=h
 refine⟨fun k=>S k∨k=bb∨v.ownBlock=some k,fun k hk=>.inl hk,⟨u,hb,hO,kK,hB,fun e=>?_,fun k hk e=>?_,fun k hk=>?_⟩,fun w' hf=>?_⟩
 ·rcases e with e | e | e
  ·exact p8 e
  ·subst e;rw [hb] at h1;simp at h1
  ·exact Lib.ownBlock_ne h2 hb (by decide) e
 ·obtain⟨⟨-,ho⟩,-⟩:=hO
  rcases ho with ⟨rfl,-⟩ | ⟨g,cap,fp,rfl,-,hg,-⟩
  ·simp [Value.ownBlock] at hk
  ·have e2:g=k:=Option.some.inj (show some g=some k from hk)
   subst e2
   rcases e with e | e | e
   ·exact pK _ rfl e
   ·subst e;rw [hg] at h1;simp at h1
   ·exact Lib.ownBlock_ne h2 hg (by decide) e
 ·rcases hk with hk | hk | hk
  ·exact mp k hk
  ·subst hk;exact hlt h1
  ·exact(h2.lt k hk).2
 ·have h5:w'.heap[bb]? = some (.cells #[p,v] 80 (0,0)):=by rw [hf.block bb (hlt h1) (fun e=>e (.inr (.inl rfl)))];exact h1
  have h6:w'.ownsRow bb 5 1 v out.length out:=by
   refine⟨h2.1,h2.2.imp id fun ⟨g,cap,fp,e,hh,hg,r⟩=>⟨g,cap,fp,e,hh,?_,r⟩⟩
   rw [hf.block g (hlt hg) (fun e9=>e9 (.inr (.inr (by rw [e];rfl))))];exact hg
  rcases h4 with rfl | rfl
  ·exact .inl ⟨Nat.le_refl _,v,h5,h6,h3⟩
  ·exact .inr ⟨Nat.le_refl _,v,h5,h6,h3⟩
theorem bj.wrote {S:Nat→Prop} {B b bb:Nat} {w w':World} {R:List (List Value)} (h:bj S B b w R) (hk:gU bb w w') (hl:Below bb w w') (kJ:(w.heap[bb]?).isSome→∃p v,w.heap[bb]? = some (.cells #[p,v] 80 (0,0))):bj S B b w' R:=by
 obtain⟨u,hb,hO,kK,hB,p8,pK,mp⟩:=h
 have As:b≠bb:=fun e=>by subst e;obtain⟨p,v,h⟩:=kJ (by rw [hb];rfl);rw [hb] at h;simp at h
 refine⟨u,hk b _ _ hb (by decide) As,⟨⟨hO.1.1,hO.1.2.imp id fun ⟨g,cap,fp,e,hh,hg,r⟩=>⟨g,cap,fp,e,hh,?_,r⟩⟩,hO.2⟩,kK,Nat.le_trans hB hl.size,p8,pK,fun k hk=>zn (mp k hk) hl.size⟩
 exact hk g _ _ hg (by decide) (fun e9=>by subst e9;obtain⟨p,v,h⟩:=kJ (by rw [hg];rfl);rw [hg] at h;simp at h)
theorem pe.cells {bb:Nat} {out:List Value} {w:World} (hp:pe bb out w):∃p v,w.heap[bb]? = some (.cells #[p,v] 80 (0,0)):=by
 rcases hp with ⟨-,v,h1,-⟩ | ⟨-,v,h1,-⟩
 ·exact⟨_,v,h1⟩
 ·exact⟨_,v,h1⟩
theorem Bn {S:Nat→Prop} {bb:Nat} {w w':World} (h:Below bb w w') (hS:∀k,S k→k<bb):Fr2 (fun k=>¬S k) w w':=
 ⟨h.os,h.tape,h.output,h.size,fun k _ hn=>h.block k (Classical.byContradiction fun e=>hn (fun hk=>e (hS k hk)))⟩
mutual
def ll:Sx→Prop
 | .mk op nm md nu _ ks _=>(1≤op∧op≤24∧countB op ks.length=true∧nm.length≤60000∧md.length≤60000∧nu.natAbs<Zd.Lim)∧jQ ks
def jQ:List Sx→Prop
 | []=>True
 | x::l=>ll x∧jQ l
end
theorem wO:∀ {l:List Sx} {x:Sx},jQ l→x∈l→ll x
 | [],x,_,h=>by cases h
 | y::l,x,hs,h=>by
   simp only [jQ] at hs
   rcases List.mem_cons.1 h with h | h
   ·subst h;exact hs.1
   ·exact wO hs.2 h
def mi:Pc→Prop
 | .bs _=>True
 | .ex x _=>ll x
theorem RI:ll nilS:=by
 simp only [nilS,ll,jQ]
 exact⟨⟨by omega,by omega,by decide,by simp,by simp,by unfold Zd.Lim;exact Nat.pow_pos (by unfold Zd.Bw;omega)⟩,trivial⟩
theorem PL {ks:List Sx} (h:jQ ks) (j:Nat):ll (ks.getD j nilS):=by
 rw [List.getD_eq_getElem?_getD]
 cases hx:ks[j]? with
 | none=>exact RI
 | some x=>exact wO h (List.mem_of_getElem? hx)
theorem Bp:∀ {l:List Sx},jQ l→∀p∈ei l,mi p
 | [],h,p,hp=>by simp [ei] at hp
 | [x],h,p,hp=>by
   simp only [ei,List.mem_cons,List.not_mem_nil,or_false] at hp
   subst hp;simp only [jQ] at h;exact h.1
 | x::y::l,h,p,hp=>by
   have h2:ll x∧jQ (y::l):=by simp only [jQ] at h ⊢;exact h
   simp only [ei,List.mem_cons] at hp
   rcases hp with rfl | rfl | hp
   ·exact h2.1
   ·trivial
   ·exact Bp h2.2 p (by simpa [ei] using hp)
theorem Qt {c:Prop} [Decidable c] {a b:List Pc} (ha:∀p∈a,mi p) (hb:∀p∈b,mi p):∀p∈(if c then a else b),mi p:=by
 split
 ·exact ha
 ·exact hb
theorem Mi {a:Pc} {l:List Pc} (ha:mi a) (hl:∀p∈l,mi p):∀p∈a::l,mi p:=fun p hp=>by
 rcases List.mem_cons.1 hp with rfl | hp
 ·exact ha
 ·exact hl p hp
theorem Rj {a b:List Pc} (ha:∀p∈a,mi p) (hb:∀p∈b,mi p):∀p∈a++b,mi p:=fun p hp=>(List.mem_append.1 hp).elim (ha p) (hb p)
theorem Og:∀p∈([]:List Pc),mi p:=fun p hp=>by cases hp
theorem Nk {op:Int} {nm md:List UInt8} {nu:Int} {ys:Bool} {ks:List Sx} {ps:Int} (h:jQ ks):∀p∈fR (.mk op nm md nu ys ks ps),mi p:=by
 have hb:∀s,mi (.bs s):=fun _=>trivial
 have he:∀j n,mi (.ex (ks.getD j nilS) n):=fun j n=>PL h j
 simp only [fR]
 repeat' (first | exact Og | exact hb _ | exact he _ _ | exact Bp h | refine Qt ?_ ?_ | refine Mi ?_ ?_ | refine Rj ?_ ?_)
theorem KC {x:Sx} (h:ll x) (least:Nat):∀p∈gQ x least,mi p:=by
 cases x with
 | mk op nm md nu ys ks ps=>
   simp only [ll] at h
   have hb:=Nk (op:=op) (nm:=nm) (md:=md) (nu:=nu) (ys:=ys) (ps:=ps) h.2
   intro p hp
   unfold gQ at hp
   split at hp
   ·rcases List.mem_append.1 hp with hp | hp
    ·rcases List.mem_cons.1 hp with hp | hp
     ·subst hp;trivial
     ·exact hb p hp
    ·rw [List.mem_singleton] at hp;subst hp;trivial
   ·exact hb p hp
theorem Py {B be nv cv nd nk ck nw cw:Nat} {W1 W5 W7:World} {pv pk pw:Option Addr} {o1 o2:List Sx} {r1 r2:List (List Value)} {op:Int} {nm md:List UInt8} {nu:Int} {s ys:Bool} {sn sm:ByteArray}
  (Qr:(⟨nm.toArray⟩:ByteArray)=sn) (Rt:(⟨md.toArray⟩:ByteArray)=sm)
  (Te:kB B W1 (.slice pv nv cv) (o1++o2) (r1++r2)) (vw:r1.length=nd) (rg:o1.length=nd) (hI:Zd.IsInt W5 (.agg #[.bool s,.slice pw nw cw]) nu) (hIF:0<nw→∃a,pw=some a∧be<a.block∧a.block<W5.heap.size)
  (Yy:W5.heap[be]? = some (.cells #[.int .i64 op,.string sn,.string sm,.bool s,.slice pw nw cw,.bool ys,.slice none 0 0,.int .i64 0] 30 (0,0))) (hz:W1.heap.size=be) (jI:W1.grownBy W5 none) (hB:B≤be)
  (hO7:ak 8 30 W7 W5.heap.size (.slice pk nk ck) r2) (iG:(W5.alloc (.cells #[] 30)).grownBy W7 (some W5.heap.size)):
  W7.heap[be]? = some (.cells #[.int .i64 op,.string sn,.string sm,.bool s,.slice pw nw cw,.bool ys,.slice none 0 0,.int .i64 0] 30 (0,0))∧
  (W7.setCell ⟨be,6,none⟩ (.slice pk nk ck)).heap[be]? = some (.cells #[.int .i64 op,.string sn,.string sm,.bool s,.slice pw nw cw,.bool ys,.slice pk nk ck,.int .i64 0] 30 (0,0))∧
  W1.grownBy (W7.setCell ⟨be,6,none⟩ (.slice pk nk ck)) none∧kB B (W7.setCell ⟨be,6,none⟩ (.slice pk nk ck)) (.slice pv nv cv) (o1++o2) (r1++r2)∧
  SAt (fun k=>B≤k∧k<(W7.setCell ⟨be,6,none⟩ (.slice pk nk ck)).heap.size∧(Value.slice pv nv cv).ownBlock≠some k) (W7.setCell ⟨be,6,none⟩ (.slice pk nk ck)) (.mk op nm md nu ys o2 0) [.int .i64 op,.string sn,.string sm,.bool s,.slice pw nw cw,.bool ys,.slice pk nk ck,.int .i64 0]∧
  ak 8 30 (W7.setCell ⟨be,6,none⟩ (.slice pk nk ck)) B (.slice pv nd cv) r1:=by
 have dk:=World.grownBy_alloc W5 (.cells #[] 30) none
 have Ps:W5.grownBy W7 none:=gy dk (Fr2.of (S:=fun k=>k=W5.heap.size) iG (fun k e=>(Option.some.inj (show some W5.heap.size=some k from e)).symm)) (fun i hi=>by have hi:i=W5.heap.size:=hi;omega)
 have CD:=bx Ps Yy
 have akg:be<W5.heap.size:=hlt Yy
 have zC:(W7.setCell ⟨be,6,none⟩ (.slice pk nk ck)).heap[be]? = some (.cells #[.int .i64 op,.string sn,.string sm,.bool s,.slice pw nw cw,.bool ys,.slice pk nk ck,.int .i64 0] 30 (0,0)):=ab (i:=6) (u:=.slice pk nk ck) CD
 have hf8:Fr2 (fun k=>k=be) W7 (W7.setCell ⟨be,6,none⟩ (.slice pk nk ck)):=(Fr2.refl (fun k=>k=be) W7).setCell (rfl:(fun k=>k=be) be) _
 have zi:W1.grownBy (W7.setCell ⟨be,6,none⟩ (.slice pk nk ck)) none:=gy (aa jI Ps) hf8 (fun i hi=>by have hi:i=be:=hi;omega)
 have GG:=Te.kept zi
 have aiW:W7.heap.size≤(W7.setCell ⟨be,6,none⟩ (.slice pk nk ck)).heap.size:=hf8.size
 have ahC:=Ps.size
 have ey:∀k,(Value.slice pv nv cv).ownBlock=some k→k<be:=fun k e=>by have:=(ak.at Te.1 k e).2;omega
 refine⟨CD,zC,zi,GG,?_,by have:=ak.takeS r2 _ GG.1;rwa [vw] at this⟩
 have hx:=P3 (B:=0) (v:=.slice none 0 0) (F:=fun k=>B≤k∧k<(W7.setCell ⟨be,6,none⟩ (.slice pk nk ck)).heap.size∧(Value.slice pv nv cv).ownBlock≠some k) (op:=op) (nm:=nm) (md:=md) (nu:=nu) (ys:=ys) (s:=s) (pw:=pw) (nw:=nw) (cw:=cw) (o:=o2) (rows:=r2)
  (qN (hI.kept Ps) hf8 (fun h0 a ha e=>by obtain⟨a',jE,h1,-⟩:=hIF h0;rw [ha] at jE;injection jE with jE;subst jE;have e:a.block=be:=e;omega))
  (fun h0=>by
   obtain⟨a,ha,h1,h2⟩:=hIF h0
   exact⟨a,ha,by omega,by omega,fun e=>by have:=ey _ e;omega⟩)
  (ak.keptF hO7 hf8 (fun k e e2=>by have:=(ak.at hO7 k e).1;have e2:k=be:=e2;omega))
  (by
   obtain⟨x1,x2,e,h1,h2⟩:=LsS.split GG.2.1
   have hl:x1.length=r1.length:=by rw [h1.len,rg,vw]
   have ha:x2=r2:=(List.append_inj e hl.symm).2.symm
   subst ha
   exact h2)
  (fun k h1 h2=>⟨by omega,h2,fun e=>by have:=ey _ e;omega⟩)
 unfold aw at hx
 rw [Qr,Rt] at hx
 exact hx
theorem tI {B n nd n9 c g' bH H:Nat} {W W8 Wx w9:World} {p:Option Addr} {o1 o2:List Sx} {r1 r2:List (List Value)} {x:Sx} {q:List Value} (h:kB B W8 (.slice p n c) (o1++o2) (r1++r2)) (vw:r1.length=nd) (rg:o1.length=nd)
  (hx:SAt (fun k=>B≤k∧k<W8.heap.size∧(Value.slice p n c).ownBlock≠some k) W8 x q) (hgx:W8.grownBy Wx none) (hO:ak 8 30 w9 B (.slice (some ⟨g',0,none⟩) n9 bH) (r1++[q])) (hg:Wx.grownBy w9 (Value.slice p nd c).ownBlock) (hH:(Value.slice p nd c).ownBlock=some g'∨g'=H) (hHw:Wx.heap.size≤H) (hW:W.grownBy W8 none) (hWB:W.heap.size≤B):
  kB B w9 (.slice (some ⟨g',0,none⟩) n9 bH) (o1++[x]) (r1++[q])∧W.grownBy w9 none:=by
 subst vw
 refine⟨kB.push (h.kept hgx) rg.symm (SAt.mono (fun k hk=>⟨hk.1,zn hk.2.1 hgx.size,hk.2.2⟩) (hx.kept hgx)) hO hg hH hHw,?_⟩
 exact gy (aa hW hgx) (Fr2.of (S:=fun k=>(Value.slice p r1.length c).ownBlock=some k) hg (fun k e=>e)) (fun i hi=>by
  have e:(Value.slice p n c).ownBlock=some i:=by cases p<;>exact hi
  have:=(ak.at h.1 i e).1;omega)
theorem pu:∀ {a b:List Sx},jD (a++b)↔jD a∧jD b
 | [],b=>by simp [jD]
 | x::a,b=>by simp only [List.cons_append,jD,pu (a:=a) (b:=b),and_assoc]
theorem NJ (c:Cl):(rQ c).natAbs<Zd.Lim:=by
 unfold rQ
 split
 ·exact Zd.parseV_lim _
 ·unfold Zd.Lim;exact Nat.pow_pos (by unfold Zd.Bw;omega)
theorem LM {o:List Sx} {c:Cl} (h:jD o) (hf:jw c=true):jD (iF o c):=by
 unfold iF
 have h2:=h
 rw [←List.take_append_drop (o.length - ft c) o] at h2
 have h3:=pu.1 h2
 refine pu.2 ⟨h3.1,?_⟩
 unfold jw at hf
 simp only [Bool.and_eq_true] at hf
 have h4:=of_decide_eq_true hf.1.1
 have h5:=of_decide_eq_true hf.1.2
 simp only [jD,okS,and_true]
 exact⟨⟨by omega,by omega,NJ c⟩,h3.2⟩
theorem Ae:∀(l:List Cl) (o:List Sx),jD o→l.all jw=true→jD (l.foldl iF o)
 | [],o,h,_=>h
 | c::l,o,h,hf=>by
   simp only [List.all_cons,Bool.and_eq_true] at hf
   exact Ae l _ (LM h hf.1) hf.2
theorem GY {l:List Cl} (h:l.all jw=true):jD (cA l):=Ae l [] (by simp [jD]) h
theorem BD {l:List Cl} {x:Sx} (h:eY l=some x):okS x:=by
 unfold eY at h
 split at h
 ·cases h
 ·split at h
  ·rename_i hf
   have h1:=GY hf
   rcases ju (cA l) with ho | ⟨o1,y,ho⟩
   ·rw [ho] at h;cases h
   ·rw [ho] at h h1
    rw [List.getLast?_append] at h
    have:y=x:=by simpa using h
    subst this
    have:=(pu.1 h1).2
    simp only [jD,and_true] at this
    exact this
  ·cases h
set_option maxHeartbeats 16000000
set_option maxRecDepth 100000
def XW (c:Cl):Value:=.agg #[.int .i64 c.op,.int .i64 c.kids,aw c.nm,aw c.md,aw c.nu,.bool c.ys]
theorem R7 (c:Cl) (w:World) (hk : -9223372036854775808≤c.kids∧c.kids<9223372036854775808):Calls Tryz.prog 13 #[XW c] w (sO (ft c) w):=by
 obtain⟨T,hT⟩:∃T,ft c=T:=⟨_,rfl⟩
 have HT:=zh hT
 rw [hT]
 obtain⟨op,kids,nm,md,nu,ys⟩:=c
 unfold ft at hT
 unfold XW aw
 simp only at hT hk ⊢
 by_cases h4:op≤4
 ·rw [if_pos (.inl h4)] at hT
  subst hT
  have d4:decide (op≤4)=true:=zd h4
  clear h4 HT
  go_enter Tryz.func13,Tryz.ntmps13
  go_wp2
  go_ret
  exact⟨rfl,gbx⟩
 have d4:decide (op≤4)=false:=decide_eq_false h4
 by_cases Ol:24<op
 ·rw [if_pos (.inr Ol)] at hT
  subst hT
  have d24:decide (24<op)=true:=zd Ol
  clear h4 Ol HT
  go_enter Tryz.func13,Tryz.ntmps13
  go_wp2
  go_ret
  exact⟨rfl,gbx⟩
 have d24:decide (24<op)=false:=decide_eq_false Ol
 rw [if_neg (by omega)] at hT
 by_cases h6:op≤6
 ·rw [if_pos h6] at hT
  subst hT
  have d6:decide (op≤6)=true:=zd h6
  clear h4 Ol h6 HT
  go_enter Tryz.func13,Tryz.ntmps13
  go_wp2
  go_ret
  exact⟨rfl,gbx⟩
 have d6:decide (op≤6)=false:=decide_eq_false h6
 rw [if_neg h6] at hT
 by_cases h21:op=21
 ·subst h21
  rw [if_pos rfl] at hT
  subst hT
  clear h4 Ol h6 HT d4 d6 d24
  go_enter Tryz.func13,Tryz.ntmps13
  go_wp2
  go_ret
  exact⟨rfl,gbx⟩
 rw [if_neg h21] at hT
 have Do:(op == 21)=false:=beq_eq_false_iff_ne.2 h21
 by_cases hc:op=24
 ·subst hc
  rw [if_pos rfl] at hT
  have ns:Hid ((T:Int)=min (max kids 0) 9):=zh (by omega)
  clear h4 Ol h6 h21 Do HT hT d4 d6 d24
  go_enter Tryz.func13,Tryz.ntmps13
  go_wp2
  go_ret
  exact⟨by rw [ns.out];rfl,gbx⟩
 ·rw [if_neg hc] at hT
  subst hT
  have Dp:(op == 24)=false:=beq_eq_false_iff_ne.2 hc
  clear h4 Ol h6 h21 hc HT
  go_enter Tryz.func13,Tryz.ntmps13
  go_wp2
  go_ret
  exact⟨rfl,gbx⟩
mutual
def tbS:Sx→Nat
 | .mk _ nm md nu _ ks _=>100+nm.length+md.length+(Zd.txtL nu).length+jA ks
def jA:List Sx→Nat
 | []=>0
 | x::l=>4+tbS x+jA l
end
def kH:List (Int×List UInt8)→Nat
 | []=>0
 | a::l=>4+a.2.length+kH l
theorem KY (op:Int) (t:List UInt8) (least:Nat):(mh op t least).length≤t.length+2:=by
 unfold mh;split<;>simp
theorem Ih:∀(k:List (Int×List UInt8)),(k.getD 0 (1,[])).2.length+(k.getD 1 (1,[])).2.length+(k.getD 2 (1,[])).2.length≤kH k
 | []=>by simp [kH]
 | [a]=>by simp [kH]
 | [a,b]=>by simp [kH];omega
 | a::b::c::l=>by simp [kH];omega
theorem BQ:∀k:List (Int×List UInt8),(ln (k.map (·.2))).length≤kH k
 | []=>by simp [ln,kH]
 | [a]=>by simp [ln,kH]
 | a::b::l=>by
   have:=BQ (b::l)
   simp only [List.map_cons] at this
   simp only [List.map_cons,ln,List.length_append,List.length_cons,List.length_nil,kH] at this ⊢;omega
theorem H8 (op:Int):(eJ op).length≤2:=by
 unfold eJ
 rw [List.getD_eq_getElem?_getD]
 cases h:([[43],[45],[42],[47],[37],[61],[60,62],[60],[60,61],[62],[62,61],[38,38],[124,124],[61,62]]:List (List UInt8))[(op - 7).toNat]? with
 | none=>simp
 | some a=>
   have h2:=List.mem_of_getElem? h
   simp only [List.mem_cons,List.not_mem_nil,or_false] at h2
   rcases h2 with h | h | h | h | h | h | h | h | h | h | h | h | h | h<;>subst h<;>simp
theorem Nu {c:Prop} [Decidable c] {a b:List UInt8} {n:Nat} (ha:a.length≤n) (hb:b.length≤n):(if c then a else b).length≤n:=by
 split
 ·exact ha
 ·exact hb
theorem KP (op:Int) (nm md:List UInt8) (nu:Int) (ys:Bool) (k:List (Int×List UInt8)):(iB op nm md nu ys k).length≤100+nm.length+md.length+(Zd.txtL nu).length+kH k:=by
 have h3:=Ih k
 have hj:=BQ k
 have hs:=H8 op
 have hw:=fun j l=>KY (k.getD j (1,[])).1 (k.getD j (1,[])).2 l
 have a0:=hw 0 9
 have a1:=hw 0 4
 have b0:=hw 0 0
 have b1:=hw 1 0
 have b2:=hw 2 0
 have d0:=hw 0 (iu (aV op))
 have d1:=hw 1 (iT (aV op))
 simp only [iB]
 have hm:(if md = [] then [] else md++[46]).length≤md.length+1:=Nu (by simp) (by simp)
 clear hw
 generalize Zd.txtL nu=tl
 repeat' (refine Nu ?_ ?_)
 all_goals try simp only [List.length_append,List.length_cons,List.length_nil]
 all_goals omega
mutual
theorem DU:∀x:Sx,(txS x).length≤tbS x
 | .mk op nm md nu ys ks ps=>by
   have h1:=KP op nm md nu ys (iK ks)
   have h2:=Fw ks
   simp only [txS,tbS];omega
theorem Fw:∀l:List Sx,kH (iK l)≤jA l
 | []=>Nat.le_refl _
 | x::l=>by
   have h1:=DU x
   have h2:=Fw l
   simp only [iK,kH,jA];omega
end
theorem AP:∀ {l:List Sx} {j:Nat} {x:Sx},l[j]? = some x→tbS x≤jA l
 | [],j,x,h=>by simp at h
 | y::l,0,x,h=>by simp at h;subst h;simp only [jA];omega
 | y::l,j+1,x,h=>by
   have:=AP (l:=l) (j:=j) (x:=x) (by simpa using h)
   simp only [jA];omega
theorem qZ (a b:List Sx):jA (a++b)=jA a+jA b:=by
 induction a with
 | nil=>simp [jA]
 | cons x l ih=>simp only [List.cons_append,jA,ih];omega
theorem rE (a b:List Sx):gP (a++b)=gP a+gP b:=by
 induction a with
 | nil=>simp [gP]
 | cons x l ih=>simp only [List.cons_append,gP,ih];omega
theorem Nb {c:Cl} (h:jw c=true):(Zd.txtL (rQ c)).length≤80:=by
 have hz:(Zd.txtL 0).length≤80:=by unfold Zd.txtL;rw [if_pos rfl];simp
 unfold jw at h
 simp only [Bool.and_eq_true] at h
 have h3:=of_decide_eq_true h.2
 unfold rQ
 split
 ·by_cases hE:Zd.parseE c.nu=0
  ·rw [Zd.txtL_parse hE];exact h3
  ·have:Zd.parseV c.nu=0:=by unfold Zd.parseV;rw [if_neg hE]
   rw [this];exact hz
 ·exact hz
theorem I5 {o:List Sx} {c:Cl} (h:jw c=true):jA (iF o c)≤jA o+304∧gP (iF o c)=gP o+8:=by
 have h1:=qZ (o.take (o.length - ft c)) (o.drop (o.length - ft c))
 have h2:=rE (o.take (o.length - ft c)) (o.drop (o.length - ft c))
 rw [List.take_append_drop] at h1 h2
 have h3:=Nb h
 unfold jw at h
 simp only [Bool.and_eq_true] at h
 have h4:=of_decide_eq_true h.1.1
 have h5:=of_decide_eq_true h.1.2
 unfold iF
 rw [qZ,rE,h1,h2]
 simp only [jA,tbS,gP,wgS]
 omega
theorem wg:∀(l:List Cl) (o:List Sx),l.all jw=true→jA (l.foldl iF o)≤jA o+304*l.length∧gP (l.foldl iF o)=gP o+8*l.length
 | [],o,_=>by simp
 | c::l,o,h=>by
   simp only [List.all_cons,Bool.and_eq_true] at h
   have h1:=wg l (iF o c) h.2
   have h2:=I5 (o:=o) h.1
   rw [List.foldl_cons,List.length_cons]
   omega
theorem Bi:∀ {l:List Sx} {j:Nat} {x:Sx},l[j]? = some x→wgS x≤gP l
 | [],j,x,h=>by simp at h
 | y::l,0,x,h=>by simp at h;subst h;simp only [gP];omega
 | y::l,j+1,x,h=>by
   have:=Bi (l:=l) (j:=j) (x:=x) (by simpa using h)
   simp only [gP];omega
theorem Ic {l:List Cl} {x:Sx} (h:eY l=some x):tbS x≤10000∧wgS x≤500:=by
 unfold eY at h
 split at h
 ·cases h
 ·rename_i h30
  split at h
  ·rename_i hf
   have h1:x∈cA l:=List.mem_of_getLast? h
   obtain⟨j,hj,rfl⟩:=List.getElem_of_mem h1
   have h2:=AP (List.getElem?_eq_getElem hj)
   have h3:=Bi (List.getElem?_eq_getElem hj)
   have h4:=wg l [] hf
   unfold cA at h2 h3 ⊢
   simp only [jA,gP] at h4
   omega
  ·cases h
def MtK (T:List Tok) (i:Nat) (A:List Tk):Prop:=∀j t,A[j]? = some t→∃k,T[i+j]? = some k∧k.kind=t.k∧k.text=t.t
theorem MtK.app {T:List Tok} {i:Nat} {A B:List Tk} (h:MtK T i (A++B)):MtK T i A∧MtK T (i+A.length) B:=by
 refine⟨fun j t hj=>h j t ?_,fun j t hj=>?_⟩
 ·rw [List.getElem?_append_left (List.getElem?_eq_some_iff.1 hj).1];exact hj
 ·have:=h (A.length+j) t (by rw [List.getElem?_append_right (by omega)];simpa using hj)
  rwa [←Nat.add_assoc] at this
theorem MtK.cons {T:List Tok} {i:Nat} {t:Tk} {A:List Tk} (h:MtK T i (t::A)):(∃k,T[i]? = some k∧k.kind=t.k∧k.text=t.t)∧MtK T (i+1) A:=by
 refine⟨h 0 t rfl,fun j u hj=>?_⟩
 have:=h (j+1) u (by simpa using hj)
 rwa [show i+(j+1)=i+1+j by omega] at this
theorem eK:∀A:List Tk,(ldK A).length=A.length
 | []=>rfl
 | t::A=>rfl
theorem MtK.ld {T:List Tok} {i:Nat}:∀ {A:List Tk},MtK T i (ldK A)→MtK T i A
 | [],_=>fun j t hj=>by simp at hj
 | u::A,h=>fun j t hj=>by
   cases j with
   | zero=>
     simp at hj;subst hj
     obtain⟨k,h1,h2,h3⟩:=h 0 { u with b:=true } rfl
     exact⟨k,h1,h2,h3⟩
   | succ j=>exact h (j+1) t (by simpa [ldK] using hj)
abbrev sI (c:Bool) (i:Nat):St:=⟨i,c,0,0⟩
def vx (t:List UInt8):Nat:=if t = [42]∨t = [47]∨t = [37] then 7 else if t = [43]∨t = [45] then 6 else if t = [61]∨t = [60,62]∨t = [60]∨t = [60,61]∨t = [62]∨t = [62,61] then 5
 else if t = [38,38] then 3 else if t = [124,124] then 2 else if t = [61,62] then 1 else 0
section
variable {T:List Tok} {c:Bool} {i:Nat} {k:Tok}
theorem fh (h:T[i]? = some k):an T (sI c i)=k:=by simp [an,h]
theorem aS (h:T[i]? = some k) (w:List UInt8):isQ T w (sI c i)=decide ((k.kind=2∨k.kind=4)∧k.text=w):=by
 unfold isQ;rw [fh h];simp
theorem aU (h:T[i]? = some k) (h5:k.kind≠5):ac T (sI c i)=([.lf i],sI c (i+1)):=by
 unfold ac aI;rw [fh h,if_neg h5]
end
def cR (T:List Tok) (l:Nat):St→Bool:=if l=7 then jN T else if l=6 then jT T else if l=3 then isQ T [38,38] else isQ T [124,124]
theorem VJ {T:List Tok} {c:Bool} {i l:Nat} {k:Tok} {op:Int} (hl:l=7∨l=6∨l=3∨l=2) (h1:7≤op) (h2:op≤20) (hlev:aV op=l) (hk:T[i]? = some k) (h4:k.kind=4) (ht:k.text=eJ op):cR T l (sI c i)=true:=by
 have hq:∀w,eJ op=w→isQ T w (sI c i)=true:=fun w e=>by rw [aS hk];exact zd ⟨.inr h4,by rw [ht,e]⟩
 obtain h | h | h | h | h | h | h | h | h | h | h | h | h | h:op=7∨op=8∨op=9∨op=10∨op=11∨op=12∨op=13∨op=14∨op=15∨op=16∨op=17∨op=18∨op=19∨op=20:=by omega
 all_goals subst h
 all_goals (rw [show l=_ from hlev.symm] at hl ⊢)
 all_goals first
  | (exfalso;revert hl;decide)
  | (show jN T _=true;unfold jN;first | (rw [hq [42] (by decide)];rfl) | (rw [hq [47] (by decide)];simp) | (rw [hq [37] (by decide)];simp))
  | (show jT T _=true;unfold jT;first | (rw [hq [43] (by decide)];rfl) | (rw [hq [45] (by decide)];simp))
  | exact hq _ (by decide)
theorem He {T:List Tok} {c:Bool} {i:Nat} {k:Tok} {op:Int} (h1:12≤op) (h2:op≤17) (hk:T[i]? = some k) (h4:k.kind=4) (ht:k.text=eJ op):fs T (sI c i)=true:=by
 have hq:∀w,eJ op=w→isQ T w (sI c i)=true:=fun w e=>by rw [aS hk];exact zd ⟨.inr h4,by rw [ht,e]⟩
 unfold fs
 obtain h | h | h | h | h | h:op=12∨op=13∨op=14∨op=15∨op=16∨op=17:=by omega
 all_goals subst h
 all_goals first | (rw [hq [61] (by decide)];simp;done) | (rw [hq [60,62] (by decide)];simp;done) | (rw [hq [60] (by decide)];simp;done) | (rw [hq [60,61] (by decide)];simp;done) | (rw [hq [62] (by decide)];simp;done) | (rw [hq [62,61] (by decide)];simp;done)
def pf (T:List Tok) (D n:Nat) (nt:NxT):Nat→St→RT
 | 0=>cP T D n nt
 | 1=>ay T D n nt
 | 2=>orT T D n nt
 | 3=>me T D n nt
 | 4=>dL T D n nt
 | 5=>dL T D n nt
 | 6=>cX T D n nt
 | 7=>cJ T D n nt
 | _+8=>aL T D n nt
mutual
def npE:Ex→Ex
 | .mk op nm md nu ys ks _=>.mk op nm md nu ys (iM ks) 0
def iM:List Ex→List Ex
 | []=>[]
 | x::l=>npE x::iM l
end
mutual
def npS:Sx→Ex
 | .mk op nm md nu ys ks _=>.mk op.toNat nm md (if op=1 then Zd.txtL nu else []) ys (gu ks) 0
def gu:List Sx→List Ex
 | []=>[]
 | x::l=>npS x::gu l
end
def rZ (T:List Tok) (c:Bool) (f:St→RT) (i k:Nat) (x:Sx):Prop:=∃t,f (sI c i)=([t],sI c k)∧isN t=true∧npE (axT T t)=npS x
theorem F4 {T:List Tok} {cc:St→Bool} {sub:St→RT} {f:Nat} {r:RT} (hf:1≤f) (h:cc r.2=false):rwT T cc sub f r=r:=by
 obtain⟨f,rfl⟩:∃g,f=g+1:=⟨f - 1,by omega⟩
 unfold rwT;rw [h];simp
theorem k8 {T:List Tok} {D n:Nat} {s:St} (h:n≤D):aO T D n s=s:=by unfold aO;rw [if_neg (by omega)]
theorem MP {T:List Tok} {D n:Nat} {nt:NxT} {l:Nat} (hl:l=7∨l=6∨l=3∨l=2) (s:St):pf T D n nt l s=rwT T (cR T l) (pf T D n nt (l+1)) (aT T (pf T D n nt (l+1) s).2) (pf T D n nt (l+1) s):=by
 rcases hl with rfl | rfl | rfl | rfl<;>rfl
section
variable {T:List Tok} {D n:Nat} {nt:NxT} {i k:Nat} {x:Sx}
end
end Go.Proofs.YtjbgnopnehgbaaaGreatDoor
namespace Go.Proofs.YtjbgnopnehgbaaaGreatDoor
def qI (t:List UInt8):Nat:=if t = [40]∨t = [46] then 9 else vx t
def jj (k:Tok):Nat:=if k.kind=2∨k.kind=4 then qI k.text else 0
def fZ (T:List Tok) (i:Nat):Nat:=jj (T[i]?.getD ⟨5,[],[],0⟩)
theorem tn {op:Int} (h1:7≤op) (h2:op≤20):qI (eJ op)=aV op:=by
 obtain h | h | h | h | h | h | h | h | h | h | h | h | h | h:op=7∨op=8∨op=9∨op=10∨op=11∨op=12∨op=13∨op=14∨op=15∨op=16∨op=17∨op=18∨op=19∨op=20:=by omega
 all_goals subst h;decide
theorem fJ {T:List Tok} {i:Nat} {k:Tok} (h:T[i]? = some k):fZ T i=jj k:=by simp [fZ,h]
section
variable {T:List Tok} {c:Bool} {i:Nat}
theorem MN {w:List UInt8} (h:isQ T w (sI c i)=true):fZ T i=qI w:=by
 unfold isQ at h
 have h:=of_decide_eq_true h
 obtain⟨-,h1,h2⟩:=h
 unfold an at h1 h2
 unfold fZ jj
 rw [if_pos h1,h2]
theorem dN {w:List UInt8} (h:fZ T i≠qI w):isQ T w (sI c i)=false:=by
 cases hq:isQ T w (sI c i)
 ·rfl
 ·exact absurd (MN hq) h
end
theorem KJ {T:List Tok} {c:Bool} {i l:Nat} (hl:l=7∨l=6∨l=3∨l=2) (h:fZ T i<l):cR T l (sI c i)=false:=by
 rcases hl with rfl | rfl | rfl | rfl
 ·show jN T _=false
  unfold jN
  rw [dN,dN,dN]<;>first | rfl | (intro e;rw [e] at h;revert h;decide)
 ·show jT T _=false
  unfold jT
  rw [dN,dN]<;>first | rfl | (intro e;rw [e] at h;revert h;decide)
 ·exact dN (by intro e;rw [e] at h;revert h;decide)
 ·exact dN (by intro e;rw [e] at h;revert h;decide)
theorem Ia {T:List Tok} {c:Bool} {i:Nat} (h:fZ T i<5):fs T (sI c i)=false:=by
 unfold fs
 rw [dN,dN,dN,dN,dN,dN]<;>first | rfl | (intro e;rw [e] at h;revert h;decide)
def BW (T:List Tok) (c:Bool) (i:Nat):Prop:=c=false→isQ T [108,101,116] (sI c i)=false∧isQ T [105,102] (sI c i)=false∧isQ T [97,115,115,101,114,116] (sI c i)=false
section
variable {T:List Tok} {D n:Nat} {nt:NxT} {c:Bool} {i k:Nat} {x:Sx}
theorem kZ {l:Nat} (hl:l=7∨l=6∨l=3∨l=2) (h:rZ T c (pf T D n nt (l+1)) i k x) (ho:fZ T k<l):rZ T c (pf T D n nt l) i k x:=by
 obtain⟨t,h1,h2,h3⟩:=h
 refine⟨t,?_,h2,h3⟩
 rw [MP hl,h1]
 exact F4 (by unfold aT;omega) (KJ hl ho)
theorem Rq {L:Nat} (hL:L<8) (h:rZ T c (pf T D n nt (L+1)) i k x) (ho:fZ T k<max 1 L) (hn:n≤D) (hnot:L=5→isQ T [110,111,116] (sI c i)=false) (sr:L=0→BW T c i):rZ T c (pf T D n nt L) i k x:=by
 obtain rfl | rfl | rfl | rfl | rfl | rfl | rfl | rfl:L=7∨L=6∨L=5∨L=4∨L=3∨L=2∨L=1∨L=0:=by omega
 ·exact kZ (.inl rfl) h (by simpa using ho)
 ·exact kZ (.inr (.inl rfl)) h (by simpa using ho)
 ·obtain⟨t,h1,h2,h3⟩:=h
  refine⟨t,?_,h2,h3⟩
  have h1:cX T D n nt (sI c i)=([t],sI c k):=h1
  show dL T D n nt (sI c i)=_
  unfold dL
  rw [hnot rfl]
  simp only [h1,Ia (c:=c) (show fZ T k<5 by simpa using ho)]
  simp
 ·exact h
 ·exact kZ (.inr (.inr (.inl rfl))) h (by simpa using ho)
 ·exact kZ (.inr (.inr (.inr rfl))) h (by simpa using ho)
 ·obtain⟨t,h1,h2,h3⟩:=h
  refine⟨t,?_,h2,h3⟩
  have h1:orT T D n nt (sI c i)=([t],sI c k):=h1
  have hq:isQ T [61,62] (sI c k)=false:=dN (by intro e;rw [e] at ho;revert ho;decide)
  show ay T D n nt (sI c i)=_
  unfold ay
  simp only [h1,hq]
  simp
 ·obtain⟨t,h1,h2,h3⟩:=h
  refine⟨t,?_,h2,h3⟩
  have h1:ay T D n nt (sI c i)=([t],sI c k):=h1
  have hl:=sr rfl
  show cP T D n nt (sI c i)=_
  unfold cP
  simp only [k8 hn,h1]
  cases c
  ·obtain⟨g1,g2,g3⟩:=hl rfl
   simp [g1,g2,g3]
  ·simp
theorem LP:∀ {L L':Nat},L≤L'→L'≤8→rZ T c (pf T D n nt L') i k x→fZ T k<max 1 L→n≤D→(L≤5→6≤L'→isQ T [110,111,116] (sI c i)=false)→(1≤L'→BW T c i)→rZ T c (pf T D n nt L) i k x:=by
 intro L L'
 obtain⟨m,hm⟩:∃m,L' - L=m:=⟨_,rfl⟩
 induction m generalizing L' with
 | zero=>
   intro h1 h2 h3 _ _ _ _
   have:L=L':=by omega
   subst this;exact h3
 | succ m ih=>
   intro h1 h2 h3 h4 h5 h6 h7
   obtain⟨M,rfl⟩:∃M,L'=M+1:=⟨L' - 1,by omega⟩
   refine ih (L':=M) (by omega) (by omega) (by omega) (Rq (by omega) h3 (by omega) h5 (fun e=>h6 (by omega) (by omega)) (fun _=>h7 (by omega))) h4 h5 (fun a b=>h6 a (by omega)) (fun a=>h7 (by omega))
end
end Go.Proofs.YtjbgnopnehgbaaaGreatDoor
namespace Go.Proofs.YtjbgnopnehgbaaaGreatDoor
section
variable (T:List Tok) (D:Nat)
end
theorem Vc {T:List Tok} {i j:Nat} {t:Tr} (h:isN t=true):axT T (.nd 12 [.lf i,t,.lf j])=axT T t:=by
 cases t with
 | lf i=>cases h
 | nd k l=>simp [axT,bR,isN]
theorem li {T:List Tok} {k:Nat} {l:List Tr} (h:k≠12):axT T (.nd k l)=bJ k (fun j=>tkT T ((aX l).getD j T.length)) (bR T l):=by
 simp [axT,h]
theorem UP {op:Int} (h1:7≤op) (h2:op≤20):qW (eJ op)=op.toNat:=by
 obtain h | h | h | h | h | h | h | h | h | h | h | h | h | h:op=7∨op=8∨op=9∨op=10∨op=11∨op=12∨op=13∨op=14∨op=15∨op=16∨op=17∨op=18∨op=19∨op=20:=by omega
 all_goals subst h;decide
theorem DD {T:List Tok} {k:Nat} {tok:Tok} {op:Int} {a b:Sx} {ps:Int} {ta tb:Tr} (h1:7≤op) (h2:op≤20) (hk:T[k]? = some tok) (ht:tok.text=eJ op) (na:isN ta=true) (nb:isN tb=true) (ea:npE (axT T ta)=npS a) (eb:npE (axT T tb)=npS b):
  npE (axT T (.nd 10 [ta,.lf k,tb]))=npS (.mk op [] [] 0 false [a,b] ps):=by
 have ho:∀t:Tr,isN t=true→∀l,aX (t::l)=aX l:=fun t ht l=>by
  cases t with
  | lf i=>cases ht
  | nd k m=>rfl
 rw [li (by decide)]
 have e1:bR T [ta,.lf k,tb] = [axT T ta,axT T tb]:=by
  simp only [bR,na,nb,if_true]
  simp [isN]
 have e2:aX [ta,.lf k,tb] = [k]:=by rw [ho ta na];show k::aX [tb] = [k];rw [ho tb nb];rfl
 rw [e1,e2]
 have e3:(tkT T (([k]:List Nat).getD 0 T.length)).text=eJ op:=by simp [tkT,hk,ht]
 unfold bJ
 simp only [show ¬(10=7) by decide,show ¬(10=8) by decide,show ¬(10=9) by decide,if_false,if_true,e3,UP h1 h2,npE,iM,ea,eb,npS,gu]
 rw [if_neg (by omega)]
section
variable {T:List Tok} {D:Nat}
end
end Go.Proofs.YtjbgnopnehgbaaaGreatDoor
namespace Go.Proofs.YtjbgnopnehgbaaaGreatDoor
theorem sQ {T:List Tok} {k i:Nat} {tok:Tok} (h:k≠12) (hk:T[i]? = some tok):∃o:Nat→Tok,o 0=tok∧axT T (.nd k [.lf i])=bJ k o []:=by
 refine⟨_,?_,by rw [li h];rfl⟩
 simp [aX,tkT,hk]
theorem Mj {T:List Tok} {i:Nat} {tok:Tok} {t:Tr} {x:Ex} (hk:T[i]? = some tok) (hn:isN t=true) (e:npE (axT T t)=x):npE (axT T (.nd 11 [.lf i,t]))=.mk (unE tok.text) [] [] [] false [x] 0:=by
 rw [li (by decide)]
 have e1:bR T [.lf i,t] = [axT T t]:=by
  simp only [bR,hn,if_true]
  simp [isN]
 have e2:(tkT T ((aX [.lf i,t]).getD 0 T.length)).text=tok.text:=by simp [aX,tkT,hk]
 rw [e1]
 unfold bJ
 simp only [show ¬(11=7) by decide,show ¬(11=8) by decide,show ¬(11=9) by decide,show ¬(11=10) by decide,if_false,if_true,e2,npE,iM,e]
theorem Re {op:Int} (h1:7≤op) (h2:op≤20) (h:aV op=5):12≤op∧op≤17:=by
 obtain h3 | h3 | h3 | h3 | h3 | h3 | h3 | h3 | h3 | h3 | h3 | h3 | h3 | h3:op=7∨op=8∨op=9∨op=10∨op=11∨op=12∨op=13∨op=14∨op=15∨op=16∨op=17∨op=18∨op=19∨op=20:=by omega
 all_goals subst h3;first | omega | (exfalso;revert h;decide)
theorem RZ {op:Int} (h1:7≤op) (h2:op≤20) (h:aV op=1):op=20:=by
 obtain h3 | h3 | h3 | h3 | h3 | h3 | h3 | h3 | h3 | h3 | h3 | h3 | h3 | h3:op=7∨op=8∨op=9∨op=10∨op=11∨op=12∨op=13∨op=14∨op=15∨op=16∨op=17∨op=18∨op=19∨op=20:=by omega
 all_goals subst h3;first | rfl | (exfalso;revert h;decide)
end Go.Proofs.YtjbgnopnehgbaaaGreatDoor
