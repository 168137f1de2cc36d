/-
  Places and messages that are others.
-/
import Derived.Test.YtmfempdcpoeicaaGreatF13Vch
import Derived.Test.YtmfempdcpoeicaaGreatGSnd
import Derived.Test.YtmfempdcpoeicaaGreatF13Cg2
set_option maxHeartbeats 4000000
set_option maxRecDepth 100000
namespace Go.Proofs.YtmfempdcpoeicaaGreat.f13
open Go.RowKit Go.Shelf Go.Sort
open Go.Lib hiding intOf

theorem Own.turn_add {B:Nat} {w w':World} {L:List Rw} {r r' q:Rw} (h:Own B w (r::L)) (hc:Ch (fun g=>r.v.ownBlock=some g) w w') (hr:r'.ok B w') (hn:∀g,r'.v.ownBlock=some g→r.v.ownBlock=some g) (hq:q.ok w.heap.size w') (hB:B≤w.heap.size):Own B w' (q::r'::L):=by
 have h1:=h.turn hc hr (fun g hg=>.inl (hn g hg))
 refine ⟨fun x hx=>?_,List.pairwise_cons.2 ⟨fun x hx g hg hg'=>?_,h1.apart⟩⟩
 · rcases List.mem_cons.1 hx with rfl | hx
   · exact (Own.base (L:=[x]) ⟨fun y hy=>by rw [List.mem_singleton.1 hy];exact hq,List.pairwise_singleton _ _⟩ hB).own x (List.mem_singleton.2 rfl)
   · exact h1.own x hx
 · have e1:=(hq.lt g hg).1
   rcases List.mem_cons.1 hx with rfl | hx
   · have:=((h.own r (List.mem_cons_self ..)).lt g (hn g hg')).2
     omega
   · have:=((h.own x (List.mem_cons_of_mem _ hx)).lt g hg').2
     omega
theorem get_count {α:Type} [DecidableEq Rw] (l:List α) (i:Nat) (hi:i<l.length) (f:α→Rw) (z:Rw):(l.map f).count z=(f l[i]::(l.eraseIdx i).map f).count z:=by
 have e:l=l.take i++l[i]::l.drop (i+1):=by rw [List.getElem_cons_drop,List.take_append_drop]
 have e2:(l.map f).count z=((l.take i++l[i]::l.drop (i+1)).map f).count z:=by rw [← e]
 rw [e2,List.eraseIdx_eq_take_drop_succ]
 simp only [List.map_append,List.map_cons,List.count_append,List.count_cons]
 omega
theorem put_count {α:Type} [DecidableEq Rw] (l:List α) (i:Nat) (y:α) (hi:i<l.length) (f:α→Rw) (z:Rw):((l.set i y).map f).count z=(f y::(l.eraseIdx i).map f).count z:=by
 rw [List.set_eq_take_append_cons_drop,if_pos hi,List.eraseIdx_eq_take_drop_succ]
 simp only [List.map_append,List.map_cons,List.count_append,List.count_cons]
 omega
theorem Sx.inLs {B : Nat} {w w' : World} {sb g cap i k : Nat} {s : St} {l : List Vr} (h : Sx B w sb s) (hB : B ≤ w.heap.size) (hi : i < s.listed.length) (hv : s.vLs = .slice (some ⟨g, 0, none⟩) s.listed.length cap) (hs : Snt w g (i * 7) k l w') :
   (∃v',Sx B w' sb { s with listed:=s.listed.set i { s.listed[i] with msg:=k,vv:=v',vars:=l } })∧Below B w w'∧Ch (fun b=>b=g) w w':=by
 obtain ⟨v',hnew,hc,hrow⟩:=hs
 have h0:=h.rLs
 rw [hv] at h0
 have hg:=h0.lt g rfl
 have h1:=hrow _ _ _ _ _ _ h0
 rw [fm_set Ls.k s.listed i 5 hi (by omega) { s.listed[i] with msg:=k } (.int .u64 (k:Int)) rfl,fm_set Ls.k _ i 6 (by simpa using hi) (by omega) { s.listed[i] with msg:=k,vv:=v',vars:=l } v' (by rw [List.getElem_set_self];rfl),List.set_set,← hv] at h1
 have hcv:Ch (fun b=>s.vLs.ownBlock=some b) w w':=hc.mono (fun b _ e=>by rw [hv,e];rfl)
 have h2:=Own.perm (M:=Ls.rw s.vLs s.listed::(bx sb s.c::(De.rw s.vDe s.procs::In.rw s.vIn s.insts::Tk.rw s.vTk s.tokens::Jb.rw s.vJb s.jobs::Tm.rw s.vTm s.timers::Sb.rw s.vSb s.subs::Kp.rw s.vKp s.kept::Ms.rw s.vMs s.msgs::s.inner))) h (perm_ac fun z=>by
   simp only [St.rows,St.main,List.count_append,List.count_cons,List.count_nil,Nat.zero_add]
   ac_rfl)
 have h3:=h2.turn_add (r':=Ls.rw s.vLs (s.listed.set i { s.listed[i] with msg:=k,vv:=v',vars:=l })) (q:=Ls.r { s.listed[i] with msg:=k,vv:=v',vars:=l }) hcv (by unfold Rw.ok Ls.rw;rw [List.length_set];exact h1) (fun b hb=>hb) hnew hB
 refine ⟨⟨v',h3.of_count (M:=bx sb s.c::(De.rw s.vDe s.procs::In.rw s.vIn s.insts::Tk.rw s.vTk s.tokens::Jb.rw s.vJb s.jobs::Tm.rw s.vTm s.timers::Sb.rw s.vSb s.subs::Kp.rw s.vKp s.kept::Ls.rw s.vLs (s.listed.set i { s.listed[i] with msg:=k,vv:=v',vars:=l })::Ms.rw s.vMs s.msgs::(s.insts.map In.r++((s.listed.set i { s.listed[i] with msg:=k,vv:=v',vars:=l }).map Ls.r++(s.msgs.map Ms.r++s.msgs.map Ms.q))))) (fun z=>by
   have:=set_count s.listed i { s.listed[i] with msg:=k,vv:=v',vars:=l } hi Ls.r z
   simp only [St.inner,List.count_append,List.count_cons] at this ⊢
   omega)⟩,hc.below hB (fun b hb e=>by omega),hc⟩
theorem Sx.inMs {B : Nat} {w w' : World} {sb g cap i : Nat} {s : St} {its : List Nat} (h : Sx B w sb s) (hB : B ≤ w.heap.size) (hi : i < s.msgs.length) (hv : s.vMs = .slice (some ⟨g, 0, none⟩) s.msgs.length cap) (hs : Its w g (i * 7) s.msgs[i].iv its w') :
   (∃v',Sx B w' sb { s with msgs:=s.msgs.set i { s.msgs[i] with iv:=v',its:=its } })∧Below B w w':=by
 obtain ⟨v',w1,rfl,hnew,hc,hn⟩:=hs
 have hq0:(Ms.q s.msgs[i]).ok B w:=h.own _ (by
   refine List.mem_cons_of_mem _ (List.mem_append_right _ ?_)
   unfold St.inner
   exact List.mem_append_right _ (List.mem_append_right _ (List.mem_append_right _ (List.mem_map_of_mem (List.getElem_mem hi)))))
 have h2:=Own.perm (M:=Ms.q s.msgs[i]::(Ms.rw s.vMs s.msgs::bx sb s.c::(De.rw s.vDe s.procs::In.rw s.vIn s.insts::Tk.rw s.vTk s.tokens::Jb.rw s.vJb s.jobs::Tm.rw s.vTm s.timers::Sb.rw s.vSb s.subs::Kp.rw s.vKp s.kept::Ls.rw s.vLs s.listed::(s.insts.map In.r++(s.listed.map Ls.r++(s.msgs.map Ms.r++(s.msgs.eraseIdx i).map Ms.q)))))) h (perm_ac fun z=>by
   have:=get_count s.msgs i hi Ms.q z
   simp only [St.rows,St.main,St.inner,List.count_append,List.count_cons,List.count_nil,Nat.zero_add] at this ⊢
   omega)
 have h3:=h2.turn (r':=Ms.q { s.msgs[i] with iv:=v',its:=its }) hc (hnew B hB (fun b hb=>(hq0.lt b hb).1)) hn
 have h4:=h3.perm (M:=Ms.rw s.vMs s.msgs::(Ms.q { s.msgs[i] with iv:=v',its:=its }::bx sb s.c::(De.rw s.vDe s.procs::In.rw s.vIn s.insts::Tk.rw s.vTk s.tokens::Jb.rw s.vJb s.jobs::Tm.rw s.vTm s.timers::Sb.rw s.vSb s.subs::Kp.rw s.vKp s.kept::Ls.rw s.vLs s.listed::(s.insts.map In.r++(s.listed.map Ls.r++(s.msgs.map Ms.r++(s.msgs.eraseIdx i).map Ms.q)))))) (List.Perm.swap _ _ _)
 have hrow:=h4.own _ (List.mem_cons_self ..)
 have hgg:=hrow.lt g (by show s.vMs.ownBlock=some g;rw [hv];rfl)
 have hrow':w1.ownsRow B 87 7 s.vMs s.msgs.length (s.msgs.flatMap Ms.c):=hrow
 rw [hv] at hrow'
 have hp:=row_put hrow' (i*7+6) v'
 rw [fm_set Ms.k s.msgs i 6 hi (by omega) { s.msgs[i] with iv:=v',its:=its } v' rfl,← hv] at hp
 have h5:=h4.turn (r':=Ms.rw s.vMs (s.msgs.set i { s.msgs[i] with iv:=v',its:=its })) (w':=w1.setCell ⟨g,i*7+6,none⟩ v') ((Ch.refl (fun b=>s.vMs.ownBlock=some b) w1).setCell ⟨g,i*7+6,none⟩ v' (fun _=>by show s.vMs.ownBlock=some g;rw [hv];rfl)) (by unfold Rw.ok Ms.rw;rw [List.length_set];exact hp) (fun b hb=>.inl hb)
 refine ⟨⟨v',h5.perm (M:=bx sb s.c::(De.rw s.vDe s.procs::In.rw s.vIn s.insts::Tk.rw s.vTk s.tokens::Jb.rw s.vJb s.jobs::Tm.rw s.vTm s.timers::Sb.rw s.vSb s.subs::Kp.rw s.vKp s.kept::Ls.rw s.vLs s.listed::Ms.rw s.vMs (s.msgs.set i { s.msgs[i] with iv:=v',its:=its })::(s.insts.map In.r++(s.listed.map Ls.r++((s.msgs.set i { s.msgs[i] with iv:=v',its:=its }).map Ms.r++(s.msgs.set i { s.msgs[i] with iv:=v',its:=its }).map Ms.q))))) (perm_ac fun z=>by
   have e1:=put_count s.msgs i { s.msgs[i] with iv:=v',its:=its } hi Ms.q z
   have e2:=put_count s.msgs i { s.msgs[i] with iv:=v',its:=its } hi Ms.r z
   have e3:=get_count s.msgs i hi Ms.r z
   have e4:Ms.r { s.msgs[i] with iv:=v',its:=its }=Ms.r s.msgs[i]:=rfl
   rw [e4] at e2
   simp only [List.count_append,List.count_cons] at e1 e2 e3 ⊢
   omega)⟩,?_⟩
 have b1:Below B w w1:=hc.below hB (fun b hb e=>by have:=(hq0.lt b e).1;omega)
 exact b1.trans (((Ch.refl (fun b=>b=g) w1).setCell ⟨g,i*7+6,none⟩ v' (fun _=>rfl)).below (Nat.le_trans hB hc.size) (fun b hb e=>by omega))

def sendL (s:St) (p:Nat × Int) (k2:Nat) (inst key:Nat) (vars:List Vr):St:={ s with listed:=chgL (fun x=>x.kk==p) (fun x=>{ x with msg:=key,vars:=vars }) s.listed,msgs:=chgL (fun x=>x.kk==k2) (fun x=>{ x with its:=x.its++[inst] }) s.msgs }
def eSending (s:St) (r:Rc):St:=match s.listed.find? (fun x=>x.kk==(r.k1,r.n)),s.msgs.find? (fun x=>x.kk==r.k2) with
 | some l,some m=>sendL s (r.k1,r.n) r.k2 l.inst m.key m.vars
 | _,_=>s
theorem row_front {w:World} {B n i k:Nat} {t:TypeId} {v:Value} {cs:List Value} {b off cap:Nat} (hrow:w.ownsRow B t k v n cs) (hi:i<n) (hv:v=.slice (some ⟨b,off,none⟩) n cap):off=0∧w.ownsRow B t k (.slice (some ⟨b,0,none⟩) n cap) n cs:=by
 rw [hv] at hrow
 obtain ⟨g',c',e',-⟩:=row_any hrow (by omega)
 injection e' with e1 _ e2
 injection e1 with e1
 injection e1 with e3 e4
 subst e3 e4 e2
 exact ⟨rfl,hrow⟩
theorem changeM_its {B : Nat} {w w1 : World} {sb k2 i fb : Nat} {s : St} {caps2 capb : Array Value} (f : List Nat → List Nat) (h : Sx B w1 sb s) (hB : B ≤ w1.heap.size) (hn : s.msgs.length ≤ 4611686018427387904) (hsay : ∀ x ∈ s.msgs, Say (fun _ => False) w1 168 caps2 #[.agg (Ms.c x).toArray] (x.kk == k2)) (ek : Ent0 fb) (hF : s.msgs.findIdx? (fun x => x.kk == k2) = some i) (hi : i < s.msgs.length) (hw : Below B w w1)
   (hb:∀(W:World) (b:Nat),Below w1.heap.size w1 W→Sx B W sb s→s.vMs.ownBlock=some b→W.cell? ⟨b,i*7+6,none⟩=some s.msgs[i].iv→W.frozen? ⟨b,i*7+6,none⟩=false→W.ownsRow B 22 1 s.msgs[i].iv s.msgs[i].its.length (s.msgs[i].its.flatMap Un.c)→(∀g,s.msgs[i].iv.ownBlock=some g→g≠b)→Calls Tryz.prog fb (#[.pointer (some ⟨b,i*7,none⟩)]++capb) W fun e w'=>e=.returned (.tuple #[])∧Its W b (i*7) s.msgs[i].iv (f s.msgs[i].its) w') :
   Calls Tryz.prog 116 #[s.vMs,.func (.func 168) #[] caps2,.func (.func fb) #[] capb] w1 fun e w'=>e=.returned (.tuple #[])∧Eff B w sb { s.e with msgs:=chgL (fun x=>x.kk==k2) (fun x=>{ x with its:=f x.its }) s.e.msgs } w':=by
 have ekO:Ent0 168:=enters_of Tryz.func168 (by kernel_rfl) rfl
 have hE:({ s.e with msgs:=chgL (fun x=>x.kk==k2) (fun x=>{ x with its:=f x.its }) s.e.msgs }:St)=({ s with msgs:=chgL (fun x=>x.kk==k2) (fun x=>{ x with its:=f x.its }) s.msgs }:St).e:=by
   simp only [St.e]
   rw [chgL_map (fun x=>x.kk==k2) (fun x=>({ x with its:=f x.its }:Ms)) (fun x=>({ x with its:=f x.its }:Ms)) Ms.e (fun x=>rfl) (fun x=>rfl)]
 rw [hE]
 have hrs:∀W,Sx B W sb s→(∀b off cap,s.vMs=.slice (some ⟨b,off,none⟩) s.msgs.length cap→off=0∧s.vMs.ownBlock=some b∧W.cell? ⟨b,i*7+6,none⟩=some s.msgs[i].iv∧W.frozen? ⟨b,i*7+6,none⟩=false)∧(Ms.q s.msgs[i]).ok B W∧(∀b,s.vMs.ownBlock=some b→∀g,s.msgs[i].iv.ownBlock=some g→g≠b):=by
   intro W hS
   refine ⟨fun b off cap hv=>?_,?_,fun b hb g hg e=>?_⟩
   · obtain ⟨rfl,hrow⟩:=row_front hS.rMs hi hv
     refine ⟨rfl,by rw [hv];rfl,row_cell hrow ?_,row_fro hrow _⟩
     rw [fm_get Ms.k _ i 6 (by omega),List.getElem?_eq_getElem hi]
     rfl
   · refine hS.own _ (List.mem_cons_of_mem _ (List.mem_append_right _ ?_))
     unfold St.inner
     exact List.mem_append_right _ (List.mem_append_right _ (List.mem_append_right _ (List.mem_map_of_mem (List.getElem_mem hi))))
   · subst e
     have hp:=(List.pairwise_append.1 (List.pairwise_cons.1 hS.apart).2).2.2 (Ms.rw s.vMs s.msgs) (by simp [St.main]) (Ms.q s.msgs[i]) (by
       unfold St.inner
       exact List.mem_append_right _ (List.mem_append_right _ (List.mem_append_right _ (List.mem_map_of_mem (List.getElem_mem hi)))))
     exact hp g hb hg
 refine (changeMs_any (X:=fun _=>False) (caps:=caps2) (capb:=capb) (fun x=>x.kk==k2) (fun W i' W'=>i'=i→∀b off cap,s.vMs=.slice (some ⟨b,off,none⟩) s.msgs.length cap→Its W b (i*7) s.msgs[i].iv (f s.msgs[i].its) W') (Rr.row Ms.k h.rMs) hn ekO hsay ek ?_).mono ?_
 · intro W i' b off cap hW hF' hi' hv
   obtain rfl:i'=i:=by rw [hF] at hF';exact (Option.some.inj hF').symm
   · have hSW:=h.up hW
     obtain ⟨h1,h2,h3⟩:=hrs W hSW
     obtain ⟨rfl,hbo,hc,hf⟩:=h1 b off cap hv
     rw [Nat.zero_add]
     refine (hb W b hW hSW hbo hc hf h2 (h3 b hbo)).mono ?_
     rintro e W' ⟨rfl,hI⟩
     refine ⟨rfl,fun _ b' off' cap' hv'=>?_⟩
     rw [hv] at hv'
     injection hv' with e1 _ _
     injection e1 with e1
     injection e1 with e3 e4
     subst e3
     exact hI
 · rintro e w' ⟨rfl,hC⟩
   refine ⟨rfl,?_⟩
   unfold CgMs at hC
   rw [hF] at hC
   obtain ⟨W,hW,hR⟩:=hC
   have hSW:=h.up hW
   obtain ⟨g0,cap0,hv0,-⟩:=row_any hSW.rMs (by omega)
   obtain ⟨⟨v',hS2⟩,hb2⟩:=hSW.inMs (Nat.le_trans hB hW.size) hi hv0 (hR rfl g0 0 cap0 hv0)
   refine ⟨_,hS2,?_,hw.trans ((hW.mono hB).trans hb2)⟩
   rw [chgL_some hF hi]
   simp only [St.e,List.map_set]
   rfl

theorem changeL_send {B : Nat} {w1 : World} {sb i mb k : Nat} {p : Nat × Int} {s : St} {caps1 : Array Value} {v : Value} {vars : List Vr} (h : Sx B w1 sb s) (hB : B ≤ w1.heap.size) (hn : s.listed.length ≤ 4611686018427387904) (hsay : ∀ x ∈ s.listed, Say (fun _ => False) w1 169 caps1 #[.agg (Ls.c x).toArray] (x.kk == p)) (hF : s.listed.findIdx? (fun x => x.kk == p) = some i) (hi : i < s.listed.length)
   (c0:w1.cell? ⟨mb,0,none⟩=some (.int .u64 (k:Int))) (c5:w1.cell? ⟨mb,5,none⟩=some v) (hmb:∀g,s.vLs.ownBlock=some g→¬mb=g) (hv:∀W,Ch (fun g=>s.vLs.ownBlock=some g) w1 W→Rr 4 Vr.c W v vars) (hvn:vars.length*48≤211106232528000) :
   Calls Tryz.prog 114 #[s.vLs,.func (.func 169) #[] caps1,.func (.func 115) #[] #[.pointer (some ⟨mb,0,none⟩)]] w1 fun e w'=>e=.returned (.tuple #[])∧∃t:St,Sx B w' sb t∧t.e={ s.e with listed:=chgL (fun x=>x.kk==p) (fun x=>{ x with msg:=k,vars:=vars }) s.e.listed }∧(t.vMs=s.vMs∧t.msgs=s.msgs)∧Below B w1 w'∧Ch (fun g=>s.vLs.ownBlock=some g) w1 w':=by
 have ekO:Ent0 169:=enters_of Tryz.func169 (by kernel_rfl) rfl
 have ekB:Ent0 115:=enters_of Tryz.func115 (by kernel_rfl) rfl
 have hE:({ s.e with listed:=chgL (fun x=>x.kk==p) (fun x=>{ x with msg:=k,vars:=vars }) s.e.listed }:St)=({ s with listed:=chgL (fun x=>x.kk==p) (fun x=>{ x with msg:=k,vars:=vars }) s.listed }:St).e:=by
   simp only [St.e]
   rw [chgL_map (fun x=>x.kk==p) (fun x=>({ x with msg:=k,vars:=vars }:Ls)) (fun x=>({ x with msg:=k,vars:=vars }:Ls)) Ls.e (fun x=>rfl) (fun x=>rfl)]
 rw [hE]
 refine (changeLs_any (X:=fun _=>False) (caps:=caps1) (capb:=#[.pointer (some ⟨mb,0,none⟩)]) (fun x=>x.kk==p) (fun W i' W'=>i'=i→∀b off cap,s.vLs=.slice (some ⟨b,off,none⟩) s.listed.length cap→Snt W b (i*7) k vars W') (Rr.row Ls.k h.rLs) hn ekO hsay ekB ?_).mono ?_
 · intro W i' b off cap hW hF' hi' hvv
   obtain rfl:i'=i:=by rw [hF] at hF';exact (Option.some.inj hF').symm
   have hSW:=h.up hW
   obtain ⟨rfl,hrow⟩:=row_front hSW.rLs hi hvv
   have hbo:s.vLs.ownBlock=some b:=by rw [hvv];rfl
   have hcc:∀n,n<7→(∃u,W.cell? ⟨b,i'*7+n,none⟩=some u)∧W.frozen? ⟨b,i'*7+n,none⟩=false:=fun n hn=>by
     refine ⟨⟨(Ls.c s.listed[i'])[n]'(by rw [Ls.k];exact hn),row_cell hrow ?_⟩,row_fro hrow _⟩
     rw [fm_get Ls.k _ i' n hn,List.getElem?_eq_getElem hi]
     exact List.getElem?_eq_getElem _
   rw [Nat.zero_add]
   refine (sending1_any (w:=W) (b:=b) (o:=i'*7) (mb:=mb) (k:=k) (v:=v) (l:=vars) ((hW.cell (p:=⟨mb,0,none⟩) (World.block_lt_of_cell? _ _ c0)).trans c0) ((hW.cell (p:=⟨mb,5,none⟩) (World.block_lt_of_cell? _ _ c5)).trans c5) (hmb b hbo) (fun W' hW'=>hv W' ((Ch.of_below hW).trans (hW'.mono (fun g _ e=>by rw [e];exact hbo)))) hvn (hcc 5 (by omega)).1 (hcc 5 (by omega)).2 (hcc 6 (by omega)).1 (hcc 6 (by omega)).2).mono ?_
   rintro e W' ⟨rfl,hI⟩
   refine ⟨rfl,fun _ b' off' cap' hv'=>?_⟩
   rw [hvv] at hv'
   injection hv' with e1 _ _
   injection e1 with e1
   injection e1 with e3 e4
   subst e3
   exact hI
 · rintro e w' ⟨rfl,hC⟩
   refine ⟨rfl,?_⟩
   unfold CgLs at hC
   rw [hF] at hC
   obtain ⟨W,hW,hR⟩:=hC
   have hSW:=h.up hW
   obtain ⟨g0,cap0,hv0,-⟩:=row_any hSW.rLs (by omega)
   obtain ⟨⟨v',hS2⟩,hb2,hc2⟩:=hSW.inLs (Nat.le_trans hB hW.size) hi hv0 (hR rfl g0 0 cap0 hv0)
   refine ⟨_,hS2,?_,⟨rfl,rfl⟩,(hW.mono hB).trans hb2,(Ch.of_below hW).trans (hc2.mono (fun g _ e=>by rw [hv0,e];rfl))⟩
   rw [chgL_some hF hi]
   simp only [St.e,List.map_set]
   rfl
theorem send_tail {B : Nat} {w W5 : World} {sb i j lb mb k2 : Nat} {p : Nat × Int} {s : St} {caps1 caps2 : Array Value} (h : Sx B w sb s) (hB : B ≤ w.heap.size) (hnL : s.listed.length ≤ 4611686018427387904) (hnM : s.msgs.length ≤ 4611686018427387904) (hF : s.listed.findIdx? (fun x => x.kk == p) = some i) (hi : i < s.listed.length) (hG : s.msgs.findIdx? (fun x => x.kk == k2) = some j) (hj : j < s.msgs.length) (hbig : (s.msgs[j].its.length + 1) * 8 ≤ 211106232528000) (hvn : s.msgs[j].vars.length * 48 ≤ 211106232528000)
   (hw:Below w.heap.size w W5) (hlb:w.heap.size≤lb) (hmb:w.heap.size≤mb) (cl:W5.cell? ⟨lb,1,none⟩=some (.int .u64 (s.listed[i].inst:Int))) (c0:W5.cell? ⟨mb,0,none⟩=some (.int .u64 (s.msgs[j].key:Int))) (c5:W5.cell? ⟨mb,5,none⟩=some s.msgs[j].vv) (hs1:(∀(X:Nat→Prop),(∀g,X g→g<w.heap.size)→∀x:Ls,(∃a n c,x.vv=.slice a n c)→Say X W5 169 caps1 #[.agg (Ls.c x).toArray] (x.kk==p))) (hs2:(∀(X:Nat→Prop),(∀g,X g→g<w.heap.size)→∀x:Ms,x.vv.oneCell'=true→x.iv.oneCell'=true→Say X W5 168 caps2 #[.agg (Ms.c x).toArray] (x.kk==k2))) :
   Calls Tryz.prog 114 #[s.vLs,.func (.func 169) #[] caps1,.func (.func 115) #[] #[.pointer (some ⟨mb,0,none⟩)]] W5 fun e w'=>e=.returned (.tuple #[])∧w'.cell? ⟨sb,11,none⟩=some s.vMs∧Hid (Calls Tryz.prog 116 #[s.vMs,.func (.func 168) #[] caps2,.func (.func 117) #[] #[.pointer (some ⟨lb,0,none⟩)]] w' fun e w'=>e=.returned (.tuple #[])∧Eff B w sb (sendL s.e p k2 s.listed[i].inst s.msgs[j].key s.msgs[j].vars) w'):=by
 have hS5:=h.up hw
 have hsv:=Own.sv (Own.sub h (List.sublist_cons_self _ _))
 have hB5:B≤W5.heap.size:=Nat.le_trans hB hw.size
 have hlow:∀g,s.vLs.ownBlock=some g→g<w.heap.size:=fun g hg=>(h.rLs.lt g hg).2
 have hmr:∀g,s.vLs.ownBlock=some g→s.msgs[j].vv.ownBlock=some g→False:=fun g hg hg'=>by
   have hp:=(List.pairwise_append.1 (List.pairwise_cons.1 h.apart).2).2.2 (Ls.rw s.vLs s.listed) (by simp [St.main]) (Ms.r s.msgs[j]) (by
     unfold St.inner
     exact List.mem_append_right _ (List.mem_append_right _ (List.mem_append_left _ (List.mem_map_of_mem (List.getElem_mem hj)))))
   exact hp g hg hg'
 have hmo:(Ms.r s.msgs[j]).ok B W5:=hS5.own _ (by
   refine List.mem_cons_of_mem _ (List.mem_append_right _ ?_)
   unfold St.inner
   exact List.mem_append_right _ (List.mem_append_right _ (List.mem_append_left _ (List.mem_map_of_mem (List.getElem_mem hj)))))
 have ek2:Ent0 117:=enters_of Tryz.func117 (by kernel_rfl) rfl
 refine (changeL_send (p:=p) (i:=i) (mb:=mb) (k:=s.msgs[j].key) (v:=s.msgs[j].vv) (vars:=s.msgs[j].vars) (caps1:=caps1) hS5 hB5 hnL (fun x hx=>hs1 (fun _=>False) (fun _ e=>e.elim) x (by obtain ⟨a,c,e,-⟩:=hsv.iLs x hx;exact ⟨a,_,c,e⟩)) hF hi c0 c5 (fun g hg e=>by have:=hlow g hg;omega) (fun W hW=>Rr.row Vr.k (hmo.ch hW (fun g hg e=>hmr g e hg))) hvn).mono ?_
 rintro e w6 ⟨rfl,t,ht,hte,⟨htv,htm⟩,hb6,hc6⟩
 have hm11:=ht.cell (j:=11) (u:=t.vMs) rfl
 rw [htv] at hm11
 refine ⟨rfl,hm11,?_⟩
 have hj':j<t.msgs.length:=by rw [htm];exact hj
 have hG':t.msgs.findIdx? (fun x=>x.kk==k2)=some j:=by rw [htm];exact hG
 have hmj:t.msgs[j]=s.msgs[j]:=by simp only [htm]
 have hb6w:Below B w w6:=(hw.mono hB).trans hb6
 have key:=changeM_its (w:=w) (k2:=k2) (i:=j) (fb:=117) (caps2:=caps2) (capb:=#[.pointer (some ⟨lb,0,none⟩)]) (fun its=>its++[s.listed[i].inst]) ht (Nat.le_trans hB5 hc6.size) (by rw [htm];exact hnM) (fun x hx=>by
   have:=hs2 (fun g=>s.vLs.ownBlock=some g) (fun g hg=>hlow g hg) x (hsv.iMs x (by rw [← htm];exact hx)).oneCell (hsv.qMs x (by rw [← htm];exact hx)).oneCell
   exact fun W hW=>this W (hc6.trans (hW.mono (fun _ _ e=>e.elim)))) ek2 hG' hj' hb6w (by
     intro W b hW hSW hbo hc hf hrow hoff
     refine sending2_any hc hf ((hW.cell (p:=⟨lb,1,none⟩) ?_).trans (hc6.cell cl (fun e=>by have:=hlow _ e;simp only at this;omega))) hrow (by rw [hmj];exact hbig) hoff
     exact Nat.lt_of_lt_of_le (World.block_lt_of_cell? _ _ cl) hc6.size)
 rw [htv] at key
 show Calls _ _ _ _ _
 refine key.mono ?_
 rintro e w7 ⟨rfl,hE⟩
 refine ⟨rfl,?_⟩
 rw [hte] at hE
 exact hE
end Go.Proofs.YtmfempdcpoeicaaGreat.f13
