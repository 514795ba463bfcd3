import Derived.Test.YtljcljipppjnoaaGreatDoorJA35
import Derived.Test.YtljcljipppjnoaaGreatDoorJA41
import Derived.RangeFuncNested
import Derived.RangeFuncCalls
import Derived.RangeFuncLeaves
import Derived.Shelf.RegionOpen
import Derived.OwnWalkIn
import Derived.TacticsInMore
import Derived.LoopNIn
import Derived.LoopIn
namespace Go.Proofs.YtljcljipppjnoaaGreatDoor
open Go.RowKit Go.Shelf
def PIt (aL aI:Addr) (q:Gh) (bp bs bb:Nat) (r:List Ev) (OI:Nat→Prop) (W:World):Prop :=
  ∃ O1,PaAt aL aI q bp bs (some r) O1 W∧W.heap[bb]?=some (.cells #[.pointer (some ⟨bp,0,none⟩)] 86 (0,0))∧¬ O1 bb∧∀ x,OI x ↔ (O1 x∨x=bb)
theorem PIt.own (aL aI:Addr) (q:Gh) (bp bs bb:Nat):OwnS (PIt aL aI q bp bs bb):=by
  refine ⟨?_,?_⟩
  · rintro r OI W w' ⟨O1,h1,h2,h3,h4⟩ hk hz
    exact ⟨O1,h1.keep (fun x hx=>hk x ((h4 x).2 (Or.inl hx))) hz,(hk bb ((h4 bb).2 (Or.inr rfl))).trans h2,h3,h4⟩
  · rintro r OI W ⟨O1,h1,h2,h3,h4⟩ x hx
    rcases (h4 x).1 hx with h | rfl
    · exact h1.lt x h
    · exact (Array.getElem?_eq_some_iff.1 h2).1
def GoAt (aL aI:Addr) (q:Gh) (bp bs bb:Nat) (J:List Ev→(Nat→Prop)→World→Prop) (OI OJ:Nat→Prop) (W:World) (acc r:List Ev) (wr:World):Prop :=
  ∃ OI1 OJ1,PIt aL aI q bp bs bb r OI1 wr∧J acc OJ1 wr∧(∀ x,OI1 x→¬ OJ1 x)∧Fp (fun x=>OI x∨OJ x) (fun x=>OI1 x∨OJ1 x) W wr
theorem GoAt.below {aL aI:Addr} {q:Gh} {bp bs bb:Nat} {J:List Ev→(Nat→Prop)→World→Prop} (kJ:OwnS J) {OI OJ:Nat→Prop} {W:World} {acc r:List Ev} {wr w':World} (h:GoAt aL aI q bp bs bb J OI OJ W acc r wr) (hb:Below wr.heap.size wr w'):GoAt aL aI q bp bs bb J OI OJ W acc r w':=by
  obtain ⟨OI1,OJ1,h1,h2,h3,h4⟩:=h
  have kP:=PIt.own aL aI q bp bs bb
  exact ⟨OI1,OJ1,kP.keep _ _ _ _ h1 (fun x hx=>hb.block x (kP.lt _ _ _ h1 x hx)) hb.size,kJ.keep _ _ _ _ h2 (fun x hx=>hb.block x (kJ.lt _ _ _ h2 x hx)) hb.size,h3,h4.trans (Fp.below hb)⟩
theorem GoAt.next {w0:World} {aL aI:Addr} {m:Int} (B:Base w0 aL aI m) {q:Gh} (hq:q.Ok) {bp bs bb:Nat} {J:List Ev→(Nat→Prop)→World→Prop} (kJ:OwnS J) {OI OJ:Nat→Prop} {W:World} (hW:Below w0.heap.size w0 W) (hlow:∀ x,(OI x∨OJ x)→w0.heap.size≤x) {acc r:List Ev} {wr:World} (h:GoAt aL aI q bp bs bb J OI OJ W acc r wr) :
    Calls Tryz.prog 47 #[.pointer (some ⟨bp,0,none⟩)] wr fun e w'=>(r=[]∧e=.returned (.tuple #[evV ⟨0,false,0,[]⟩,.bool false])∧GoAt aL aI q bp bs bb J OI OJ W acc [] w')∨∃ ev r',r=ev :: r'∧e=.returned (.tuple #[evV ev,.bool true])∧GoAt aL aI q bp bs bb J OI OJ W acc r' w':=by
  obtain ⟨OI1,OJ1,⟨O1,h1,h2,h3,h4⟩,hj,h5,h6⟩:=h
  have hb:=hW.trans (h6.under hW.size hlow)
  have hl:=h6.low hW.size hlow
  have hbb:=(Array.getElem?_eq_some_iff.1 h2).1
  refine (pnext_any B hq hb (fun x hx=>hl x (Or.inl ((h4 x).2 (Or.inl hx)))) h1).mono ?_
  rintro e w' ⟨rfl,O2,hd,hf⟩
  have hf':Fp (fun x=>O1 x∨x=bb) (fun x=>O2 x∨x=bb) wr w':=⟨hf.os,hf.tape,hf.output,hf.size,fun x hx ho=>hf.block x hx fun h=>ho (Or.inl h),fun x hx=>by
    rcases hx with hx | hx
    · exact (hf.grow x hx).imp Or.inl id
    · exact Or.inl (Or.inr hx)⟩
  have hdis:∀ x,(O1 x∨x=bb)→¬ OJ1 x:=fun x hx=>h5 x ((h4 x).2 hx)
  have j2:=kJ.keep _ _ _ _ hj (hf'.other hdis (kJ.lt _ _ _ hj)) hf.size
  have ap:=hf'.apart hdis (kJ.lt _ _ _ hj)
  have nbb:¬ O2 bb:=fun ho=>by
    rcases hf.grow bb ho with h | h
    · exact h3 h
    · omega
  have b2:=(hf.block bb hbb h3).trans h2
  have f2:Fp (fun x=>OI x∨OJ x) (fun x=>(O2 x∨x=bb)∨OJ1 x) W w':=by
    refine h6.trans ⟨hf.os,hf.tape,hf.output,hf.size,fun x hx ho=>hf.block x hx fun h=>ho (Or.inl ((h4 x).2 (Or.inl h))),fun x hx=>?_⟩
    rcases hx with hx | hx
    · exact (hf'.grow x hx).imp (fun h=>Or.inl ((h4 x).2 h)) id
    · exact Or.inl (Or.inr hx)
  cases r with
  | nil=>exact Or.inl ⟨rfl,rfl,_,OJ1,⟨O2,hd,b2,nbb,fun x=>Iff.rfl⟩,j2,ap,f2⟩
  | cons ev r'=>exact Or.inr ⟨ev,r',rfl,rfl,_,OJ1,⟨O2,hd,b2,nbb,fun x=>Iff.rfl⟩,j2,ap,f2⟩
def GoOut (aL aI:Addr) (q:Gh) (bp bs bb:Nat) (J Jx:List Ev→(Nat→Prop)→World→Prop) (xs:List Ev) (OI OJ:Nat→Prop) (W:World) (e:Ending) (W':World):Prop :=
  (∃ v,e=.returned v)∧∃ OI' OJ',(∃ r,PIt aL aI q bp bs bb r OI' W')∧(∀ x,OI' x→¬ OJ' x)∧Fp (fun x=>OI x∨OJ x) (fun x=>OI' x∨OJ' x) W W'∧(J xs OJ' W'∨∃ pre,Jx pre OJ' W')
set_option maxRecDepth 100000 in
set_option maxHeartbeats 2000000 in
theorem all_seq {w0:World} {aL aI:Addr} {m:Int} (B:Base w0 aL aI m) {q:Gh} (hq:q.Ok) (bp bs bb:Nat) (xs:List Ev) :
    SeqF Tryz.prog w0 93 #[.pointer (some ⟨bb,0,none⟩)] (fun ev=>#[evV ev]) xs (PIt aL aI q bp bs bb xs) (fun OI W=>∃ r,PIt aL aI q bp bs bb r OI W):=by
  intro l J Jx OI OJ W kJ kX hW hlow hR hJ hd hY
  have key:∀ acc r wr,GoAt aL aI q bp bs bb J OI OJ W acc r wr→wr.cell? ⟨bb,0,none⟩=some (.pointer (some ⟨bp,0,none⟩)):=fun acc r wr ⟨OI1,OJ1,⟨O1,h1,h2,h3,h4⟩,_⟩=>cell_of_one h2
  have cN:=fun acc r wr (h:GoAt aL aI q bp bs bb J OI OJ W acc r wr)=>GoAt.next B hq kJ hW hlow h
  have cY:∀ acc ev r wr,acc++ev :: r=xs→GoAt aL aI q bp bs bb J OI OJ W acc r wr→YieldAt Fence.wide 2 Tryz.prog l #[evV ev] wr fun e w'=>(e=.returned (.bool true)∧GoAt aL aI q bp bs bb J OI OJ W (acc++[ev]) r w')∨(e=.returned (.bool false)∧GoOut aL aI q bp bs bb J Jx xs OI OJ W (.returned (.tuple #[])) w'):=by
    rintro acc ev r wr hx ⟨OI1,OJ1,h1,h2,h3,h4⟩
    have hb:=hW.trans (h4.under hW.size hlow)
    have hl:=h4.low hW.size hlow
    have kP:=PIt.own aL aI q bp bs bb
    refine YieldAt.mono (yield_wide (hY acc ev r OJ1 wr hx hb (fun y hy=>hl y (Or.inr hy)) h2)) ?_
    rintro e w' ⟨OJ2,hf,hc⟩
    have h3':∀ x,OJ1 x→¬ OI1 x:=fun x a b=>h3 x b a
    have p2:=kP.keep _ _ _ _ h1 (hf.other h3' (kP.lt _ _ _ h1)) hf.size
    have ap:=hf.apart h3' (kP.lt _ _ _ h1)
    have f2:Fp (fun x=>OI x∨OJ x) (fun x=>OI1 x∨OJ2 x) W w':=h4.trans ⟨hf.os,hf.tape,hf.output,hf.size,fun x hx ho=>hf.block x hx fun h=>ho (Or.inr h),fun x hx=>by
      rcases hx with hx | hx
      · exact Or.inl (Or.inl hx)
      · exact (hf.grow x hx).imp Or.inr id⟩
    rcases hc with ⟨rfl,hj⟩ | ⟨rfl,hj⟩
    · exact Or.inl ⟨rfl,OI1,OJ2,p2,hj,fun x a b=>ap x b a,f2⟩
    · exact Or.inr ⟨rfl,⟨_,rfl⟩,OI1,OJ2,⟨r,p2⟩,fun x a b=>ap x b a,f2,Or.inr ⟨_,hj⟩⟩
  have H0:Hid (GoAt aL aI q bp bs bb J OI OJ W [] xs W):=⟨OI,OJ,hR,hJ,hd,Fp.refl _ W⟩
  have hfin:∀ wr,GoAt aL aI q bp bs bb J OI OJ W xs [] wr→GoOut aL aI q bp bs bb J Jx xs OI OJ W (.returned (.tuple #[])) wr:=fun wr ⟨OI1,OJ1,h1,h2,h3,h4⟩=>⟨⟨_,rfl⟩,OI1,OJ1,⟨_,h1⟩,h3,h4,Or.inl h2⟩
  have KEY:Hid _:=key
  have CN:Hid _:=cN
  have CY:Hid _:=cY
  have KJ:Hid (OwnS J):=kJ
  have FIN:Hid _:=hfin
  show Calls Tryz.prog 93 #[.func (.yield l) #[] #[],.pointer (some ⟨bb,0,none⟩)] W (GoOut aL aI q bp bs bb J Jx xs OI OJ W)
  clear key cN cY hfin hR hJ hd hY hW hlow B hq kJ kX
  refine (callsIn_wide (n:=3)).1 ?_
  refine callsIn_of_wp Tryz.func93 rfl trivial ?_
  simp only [Tryz.ntmps93,List.size_toArray,List.length_cons,List.length_nil,Nat.reduceAdd,Nat.reduceSub,Array.replicate_succ,Array.replicate_zero,List.push_toArray,List.append_toArray,List.nil_append,List.cons_append]
  gi_wp2
  gi_loopw [] (fun wr=>∃ (k:Nat) (acc r:List Ev),r.length < k∧acc++r=xs∧Hid (GoAt aL aI q bp bs bb J OI OJ W acc r wr)) (fun wr=>leastOf (fun k=>∃ (acc r:List Ev),r.length < k∧acc++r=xs∧Hid (GoAt aL aI q bp bs bb J OI OJ W acc r wr)))
  case atStart=>exact ⟨_,[],xs,Nat.lt_succ_self _,rfl,H0⟩
  case round =>
    obtain ⟨k0,acc0,r0,hk0,hx0,HA0⟩:=hrel
    obtain ⟨acc,r,hgk,hx,HA⟩:=(leastOf_spec (p:=fun k=>∃ (acc r:List Ev),r.length < k∧acc++r=xs∧Hid (GoAt aL aI q bp bs bb J OI OJ W acc r wr)) ⟨k0,acc0,r0,hk0,hx0,HA0⟩).1
    have least:∀ w2 (acc2 r2:List Ev),r2.length < r.length→acc2++r2=xs→Hid (GoAt aL aI q bp bs bb J OI OJ W acc2 r2 w2)→leastOf (fun k=>∃ (acc r:List Ev),r.length < k∧acc++r=xs∧Hid (GoAt aL aI q bp bs bb J OI OJ W acc r w2)) < leastOf (fun k=>∃ (acc r:List Ev),r.length < k∧acc++r=xs∧Hid (GoAt aL aI q bp bs bb J OI OJ W acc r wr)):=by
      intro w2 acc2 r2 h1 h2 h3
      have:=(leastOf_spec (p:=fun k=>∃ (acc r:List Ev),r.length < k∧acc++r=xs∧Hid (GoAt aL aI q bp bs bb J OI OJ W acc r w2)) ⟨r2.length+1,acc2,r2,Nat.lt_succ_self _,h2,h3⟩).2 (r2.length+1) ⟨acc2,r2,Nat.lt_succ_self _,h2,h3⟩
      omega
    have LE:Hid _:=least
    have HX:Hid (acc++r=xs):=hx
    clear hk0 hx0 HA0 least hx hgk
    have kc:=KEY.out _ _ _ HA.out
    cases r with
    | nil =>
      have c1:Calls Tryz.prog 47 #[.pointer (some ⟨bp,0,none⟩)] wr fun e w'=>e=.returned (.tuple #[.agg #[.int .i64 0,.bool false,.int .i64 0,.string ⟨#[]⟩],.bool false])∧Hid (GoAt aL aI q bp bs bb J OI OJ W acc [] w'):=by
        refine (CN.out _ _ _ HA.out).mono ?_
        rintro e w' (⟨_,rfl,h3⟩ | ⟨ev,r',h1,_,_⟩)
        · exact ⟨rfl,h3⟩
        · cases h1
      gi_wp2_with (refine ⟨trivial,?_⟩;gi_at_call 47;refine (callsIn_wide.2 c1).mono ?_;rintro e w1 ⟨rfl,HF⟩)
      refine ⟨fun _ h=>(by cases h),?_⟩
      gi_wp2
      refine bodyPost_ret (results_none rfl _ _ _) rfl ?_
      have hx:=HX.out
      rw [List.append_nil] at hx
      subst hx
      exact FIN.out _ (HF.out.below KJ.out ((Below.refl _ w1).alloc (Nat.le_refl _) _))
    | cons ev r' =>
      have c1:Calls Tryz.prog 47 #[.pointer (some ⟨bp,0,none⟩)] wr fun e w'=>e=.returned (.tuple #[.agg #[.int .i64 ev.kind,.bool ev.fin,.int .i64 ev.level,.string ⟨ev.text.toArray⟩],.bool true])∧Hid (GoAt aL aI q bp bs bb J OI OJ W acc r' w'):=by
        refine (CN.out _ _ _ HA.out).mono ?_
        rintro e w' (⟨h1,_,_⟩ | ⟨ev',r2,h1,rfl,h3⟩)
        · cases h1
        · injection h1 with h1 h2
          subst h1
          subst h2
          exact ⟨rfl,h3⟩
      gi_wp2_with (refine ⟨trivial,?_⟩;gi_at_call 47;refine (callsIn_wide.2 c1).mono ?_;rintro e w1 ⟨rfl,HF⟩;obtain ⟨fn,tmps,asg,bod,hy,hR⟩:=CY.out acc ev r' (w1.alloc (.cells #[.int .i64 ev.kind,.bool ev.fin,.int .i64 ev.level,.string ⟨ev.text.toArray⟩] 92)) HX.out (HF.out.below KJ.out ((Below.refl _ w1).alloc (Nat.le_refl _) _));unfold evV at hy;have HRR:Hid _:=hR;clear hR)
      refine RoundIn.mono HRR.out ?_
      rintro e w2 (⟨rfl,HG⟩ | ⟨rfl,HG⟩)
      · have HG2:Hid (GoAt aL aI q bp bs bb J OI OJ W (acc++[ev]) r' w2):=HG
        clear HG
        gi_wp2
        go_roundw
        case rel=>exact ⟨_,acc++[ev],r',Nat.lt_succ_self _,by rw [List.append_assoc];exact HX.out,HG2⟩
        case measure=>exact LE.out w2 (acc++[ev]) r' (by simp) (by rw [List.append_assoc];exact HX.out) HG2
      · have HG2:Hid (GoOut aL aI q bp bs bb J Jx xs OI OJ W (.returned (.tuple #[])) w2):=HG
        clear HG
        gi_wp2
        refine bodyPost_ret (results_none rfl _ _ _) rfl ?_
        exact HG2.out
end Go.Proofs.YtljcljipppjnoaaGreatDoor
namespace Go.Proofs.YtljcljipppjnoaaGreatDoor
open Go.RowKit Go.Shelf
def With {β:Type} (J:β→(Nat→Prop)→World→Prop) (b:Nat) (o:Obj) (s:β) (O:Nat→Prop) (W:World):Prop :=
  ∃ O1,J s O1 W∧W.heap[b]?=some o∧¬ O1 b∧∀ x,O x ↔ (O1 x∨x=b)
theorem With.own {β:Type} {J:β→(Nat→Prop)→World→Prop} (kJ:OwnS J) (b:Nat) (o:Obj):OwnS (With J b o):=by
  refine ⟨?_,?_⟩
  · rintro s O W w' ⟨O1,h1,h2,h3,h4⟩ hk hz
    exact ⟨O1,kJ.keep _ _ _ _ h1 (fun x hx=>hk x ((h4 x).2 (Or.inl hx))) hz,(hk b ((h4 b).2 (Or.inr rfl))).trans h2,h3,h4⟩
  · rintro s O W ⟨O1,h1,h2,h3,h4⟩ x hx
    rcases (h4 x).1 hx with h | rfl
    · exact kJ.lt _ _ _ h1 x h
    · exact (Array.getElem?_eq_some_iff.1 h2).1
theorem With.turn {β:Type} {J K:β→(Nat→Prop)→World→Prop} (_kJ:OwnS J) {b:Nat} {o:Obj} {s s':β} {O O1 O2:Nat→Prop} {W w':World} (_h1:J s O1 W) (h2:W.heap[b]?=some o) (h3:¬ O1 b) (h4:∀ x,O x ↔ (O1 x∨x=b)) (hf:Fp O1 O2 W w') (hk:K s' O2 w'):With K b o s' (fun x=>O2 x∨x=b) w'∧Fp O (fun x=>O2 x∨x=b) W w':=by
  have hb:=(Array.getElem?_eq_some_iff.1 h2).1
  refine ⟨⟨O2,hk,(hf.block b hb h3).trans h2,fun ho=>?_,fun x=>Iff.rfl⟩,⟨hf.os,hf.tape,hf.output,hf.size,fun x hx ho=>hf.block x hx fun h=>ho ((h4 x).2 (Or.inl h)),fun x hx=>?_⟩⟩
  · rcases hf.grow b ho with h | h
    · exact h3 h
    · omega
  · rcases hx with hx | hx
    · exact (hf.grow x hx).imp (fun h=>(h4 x).2 (Or.inl h)) id
    · exact Or.inl ((h4 x).2 (Or.inr hx))
def htmls (l:List Ev):List (List UInt8):=l.map htmlS
def TellsH (xs:List Ev):Prop:=∀ ev ∈ xs,(0≤ev.kind∧ev.kind≤11)∧(0≤ev.level∧ev.level≤3)∧Utf ev.text∧ev.text.length≤1073741824
def AsgSt (J:List (List UInt8)→(Nat→Prop)→World→Prop) (bx:Nat) (yv:Value) (tm:Ev→Nat→Array Value) (s:List Ev × Ev × Act) (O:Nat→Prop) (W:World):Prop :=
  ∃ b1,s.2.2={ tmps:=tm s.2.1 b1,defers:=[] }∧With (With (fun (p:List Ev)=>J (htmls p)) bx (.cells #[yv] 30 (0,0))) b1 (.cells #[.int .i64 s.2.1.kind,.bool s.2.1.fin,.int .i64 s.2.1.level,.string ⟨s.2.1.text.toArray⟩] 92 (0,0)) s.1 O W
theorem AsgSt.own {J:List (List UInt8)→(Nat→Prop)→World→Prop} (kJ:OwnS J) (bx:Nat) (yv:Value) (tm:Ev→Nat→Array Value):OwnS (AsgSt J bx yv tm):=by
  have k1:OwnS (fun (p:List Ev)=>J (htmls p)):=⟨fun s=>kJ.keep (htmls s),fun s=>kJ.lt (htmls s)⟩
  refine ⟨?_,?_⟩
  · rintro s O W w' ⟨b1,e,h⟩ hk hz
    exact ⟨b1,e,(With.own (With.own k1 _ _) _ _).keep _ _ _ _ h hk hz⟩
  · rintro s O W ⟨b1,e,h⟩
    exact (With.own (With.own k1 _ _) _ _).lt _ _ _ h
def PcOut (R':(Nat→Prop)→World→Prop) (be:Nat) (ob:Obj) (J Jx:List (List UInt8)→(Nat→Prop)→World→Prop) (ps:List (List UInt8)) (OI OJ:Nat→Prop) (W:World) (e:Ending) (W':World):Prop :=
  (∃ v,e=.returned v)∧∃ OI' OJ',With (fun (_:Unit)=>R') be ob () OI' W'∧(∀ x,OI' x→¬ OJ' x)∧Fp (fun x=>OI x∨OJ x) (fun x=>OI' x∨OJ' x) W W'∧(J ps OJ' W'∨∃ pre,Jx pre OJ' W')
set_option maxRecDepth 100000 in
set_option maxHeartbeats 4000000 in
theorem html_seq {w0:World} {gf:Nat} {lb:Array Value} (eg:∀ args w,(callFunc gf args).run Tryz.prog w=.ok (.enter gf args) w) {xs:List Ev} (hxs:TellsH xs) {R R':(Nat→Prop)→World→Prop} (kR:OwnS fun (_:Unit)=>R) (kR':OwnS fun (_:Unit)=>R') (hseq:SeqF Tryz.prog w0 gf lb (fun ev:Ev=>#[evV ev]) xs R R') (be:Nat) :
    SeqF Tryz.prog w0 96 #[.pointer (some ⟨be,0,none⟩)] (fun p:List UInt8=>#[.string ⟨p.toArray⟩]) (htmls xs) (With (fun (_:Unit)=>R) be (.cells #[.func (.func gf) #[] lb] 145 (0,0)) ()) (With (fun (_:Unit)=>R') be (.cells #[.func (.func gf) #[] lb] 145 (0,0)) ()):=by
  intro l J Jx OI OJ W kJ kX hW hlow hR hJ hd hY
  obtain ⟨O1,r1,r2,r3,r4⟩:=hR
  have cbe:=cell_of_one r2
  have hbe:=(Array.getElem?_eq_some_iff.1 r2).1
  show Calls Tryz.prog 96 #[.func (.yield l) #[] #[],.pointer (some ⟨be,0,none⟩)] W (PcOut R' be _ J Jx (htmls xs) OI OJ W)
  refine (callsIn_wide (n:=3)).1 ?_
  refine callsIn_of_wp_marks Tryz.func96 rfl trivial ?_
  simp only [Tryz.ntmps96,List.size_toArray,List.length_cons,List.length_nil,Nat.reduceAdd,Nat.reduceSub,Array.replicate_succ,Array.replicate_zero,List.push_toArray,List.append_toArray,List.nil_append,List.cons_append]
  obtain ⟨W1,hW1⟩:∃ W1,W.alloc (.cells #[.func (.yield l) #[] #[]] 30)=W1:=⟨_,rfl⟩
  have b1:Below W.heap.size W W1:=by rw [← hW1];exact (Below.refl _ W).alloc (Nat.le_refl _) _
  have z1:W1.heap.size=W.heap.size+1:=by rw [← hW1];simp
  have x1:W1.heap[W.heap.size]?=some (.cells #[.func (.yield l) #[] #[]] 30 (0,0)):=by rw [← hW1];exact heap_new _ _ rfl
  have cbe1:W1.cell? ⟨be,0,none⟩=some (.func (.func gf) #[] lb):=(b1.cell (p:=⟨be,0,none⟩) hbe).trans cbe
  clear cbe
  have kH:OwnS (fun (p:List Ev)=>J (htmls p)):=⟨fun s=>kJ.keep (htmls s),fun s=>kJ.lt (htmls s)⟩
  have kHx:OwnS (fun (p:List Ev)=>Jx (htmls p)):=⟨fun s=>kX.keep (htmls s),fun s=>kX.lt (htmls s)⟩
  have hJlt:=kJ.lt _ _ _ hJ
  have hRlt:=kR.lt () _ _ r1
  have hz0:=hW.size
  have hbW1:Below w0.heap.size w0 W1:=hW.trans (b1.mono hz0)
  have FINL:∀ (K:List (List UInt8)→(Nat→Prop)→World→Prop) (_:OwnS K) (sx:List Ev) (D:Nat) (OI' O':Nat→Prop) (W3:World),R' OI' W3→With (fun (p:List Ev)=>K (htmls p)) W.heap.size (.cells #[.func (.yield l) #[] #[]] 30 (0,0)) sx O' W3→(∀ x,OI' x→¬ O' x)→Fp (fun x=>O1 x∨(OJ x∨x=W.heap.size)) (fun x=>OI' x∨O' x) W1 W3→W1.heap.size≤D→¬ OI' D→¬ O' D→∃ OJ',With (fun (_:Unit)=>R') be (.cells #[.func (.func gf) #[] lb] 145 (0,0)) () (fun x=>OI' x∨x=be) (W3.putObj D (.deferred none))∧(∀ x,(OI' x∨x=be)→¬ OJ' x)∧Fp (fun x=>OI x∨OJ x) (fun x=>(OI' x∨x=be)∨OJ' x) W (W3.putObj D (.deferred none))∧K (htmls sx) OJ' (W3.putObj D (.deferred none)):=by
    rintro K kK sx D OI' O' W3 hR' ⟨O4,k1,k2,k3,k4⟩ hdis hf hDl nD1 nD2
    have nb1:¬ (O1 be∨(OJ be∨be=W.heap.size)):=by
      rintro (h | h | h)
      · exact r3 h
      · exact hd be ((r4 be).2 (Or.inr rfl)) h
      · omega
    have nb2:¬ (OI' be∨O' be):=fun h=>by
      rcases hf.grow be h with h | h
      · exact nb1 h
      · omega
    have hbW:W3.heap[be]?=some (.cells #[.func (.func gf) #[] lb] 145 (0,0)):=(hf.block be (by omega) nb1).trans ((b1.block be hbe).trans r2)
    have z3:=hf.size
    refine ⟨O4,⟨OI',kR'.keep () _ _ _ hR' (fun x hx=>World.putObj_heap_other (fun e=>nD1 (e ▸ hx))) (by simp),(World.putObj_heap_other (by omega)).trans hbW,fun h=>nb2 (Or.inl h),fun x=>Iff.rfl⟩,?_,⟨hf.os.trans b1.os,hf.tape.trans b1.tape,hf.output.trans b1.output,by simp;omega,fun x hx ho=>?_,fun x hx=>?_⟩,kK.keep _ _ _ _ k1 (fun x hx=>World.putObj_heap_other (fun e=>nD2 ((k4 D).2 (Or.inl (e ▸ hx))))) (by simp)⟩
    · rintro x (h | rfl) h4
      · exact hdis x h ((k4 x).2 (Or.inl h4))
      · exact nb2 (Or.inr ((k4 x).2 (Or.inl h4)))
    · refine (World.putObj_heap_other (by omega)).trans ((hf.block x (by omega) ?_).trans (b1.block x hx))
      rintro (h | h | h)
      · exact ho (Or.inl ((r4 x).2 (Or.inl h)))
      · exact ho (Or.inr h)
      · omega
    · rcases hx with (hx | rfl) | hx
      · rcases hf.grow x (Or.inl hx) with (h | h | h) | h
        · exact Or.inl (Or.inl ((r4 x).2 (Or.inl h)))
        · exact Or.inl (Or.inr h)
        · exact Or.inr (by omega)
        · exact Or.inr (by omega)
      · exact Or.inl (Or.inl ((r4 x).2 (Or.inr rfl)))
      · rcases hf.grow x (Or.inr ((k4 x).2 (Or.inl hx))) with (h | h | h) | h
        · exact Or.inl (Or.inl ((r4 x).2 (Or.inl h)))
        · exact Or.inl (Or.inr h)
        · exact Or.inr (by omega)
        · exact Or.inr (by omega)
  gi_wp2
  refine rangeF (gf:=gf) (lb:=lb) rfl eg hseq (fun _=>rfl) kR kR' (With (fun (p:List Ev)=>J (htmls p)) W.heap.size (.cells #[.func (.yield l) #[] #[]] 30 (0,0))) (With (fun (p:List Ev)=>Jx (htmls p)) W.heap.size (.cells #[.func (.yield l) #[] #[]] 30 (0,0))) (With.own kH _ _) (With.own kHx _ _) (OI:=O1) (O:=fun x=>OJ x∨x=W.heap.size) hbW1 ?low (kR.keep () _ _ _ r1 (fun x hx=>b1.block x (hRlt x hx)) b1.size) ?start ?apart (AsgSt J W.heap.size (.func (.yield l) #[] #[]) (fun ev b=>#[.func (.yield l) #[] #[],.pointer (some ⟨be,0,none⟩),.pointer (some ⟨W.heap.size,0,none⟩),.pointer (some ⟨b,0,none⟩),.func (.func gf) #[] lb,evV ev,undef,undef,undef,undef,undef])) (AsgSt.own kJ _ _ _) ?assign ?body ?done ?stop
  case low =>
    rintro x (h | h | rfl)
    · exact hlow x (Or.inl ((r4 x).2 (Or.inl h)))
    · exact hlow x (Or.inr h)
    · omega
  case start =>
    refine ⟨OJ,kJ.keep _ _ _ _ hJ (fun x hx=>b1.block x (hJlt x hx)) b1.size,x1,fun h=>?_,fun x=>Iff.rfl⟩
    have:=hJlt _ h
    omega
  case apart =>
    rintro x h (h1 | rfl)
    · exact hd x ((r4 x).2 (Or.inl h)) h1
    · have:=hRlt _ h
      omega
  case assign =>
    intro l' pre ev rest O W2 K hx hb2 hlo hI hK
    clear hY hseq
    have FI:Hid (With (fun (p:List Ev)=>J (htmls p)) W.heap.size (.cells #[.func (.yield l) #[] #[]] 30 (0,0)) pre O W2):=hI
    have HK:Hid _:=hK
    clear hI hK
    have hsem:=@Oper.semAt_some
    unfold evV
    gi_wp2
    have kW:=With.own kH W.heap.size (.cells #[.func (.yield l) #[] #[]] 30 (0,0))
    have olt:=kW.lt _ _ _ FI.out
    refine HK.out _ (fun x=>O x∨x=W2.heap.size) _ ⟨rfl,rfl,rfl,by simp,fun x hx ho=>Below.heap_alloc _ _ _ hx,fun x hx=>hx.imp id (fun e=>Nat.le_of_eq e.symm)⟩ ⟨W2.heap.size,rfl,O,kW.keep _ _ _ _ FI.out (fun x hx=>Below.heap_alloc _ _ _ (olt x hx)) (by simp),heap_new _ _ rfl,fun h=>?_,fun x=>Iff.rfl⟩
    have:=olt _ h
    omega
  case body =>
    rintro l' pre ev rest a' O W2 hx hb2 hlo ⟨b1,e0,O2,⟨O3,j1,j2,j3,j4⟩,e1,e2,e3⟩
    simp only at e0 e1
    rw [e0]
    have hsem:=@Oper.semAt_some
    have hmx:Tryz.prog.follows .mixedOrders=true:=by kernel_rfl
    have y2:=cell_of_one j2
    have v0:=row_cell (i:=0) e1 rfl
    have v1:=row_cell (i:=1) e1 rfl
    have v2:=row_cell (i:=2) e1 rfl
    have v3:=row_cell (i:=3) e1 rfl
    obtain ⟨t1,t2,t3,t4⟩:=hxs ev (by rw [← hx];simp)
    have cO:=fun W=>one_any ev t1 t2 t3 t4 W
    have kW2:∀ w1,Below W2.heap.size W2.drew w1→w1.cell? ⟨W.heap.size,0,none⟩=some (.func (.yield l) #[] #[])∧YieldAt Fence.wide 0 Tryz.prog l #[.string ⟨(htmlS ev).toArray⟩] w1 fun e w'=>(e=.returned (.bool true)∧∃ O',Fp O O' W2 w'∧With (fun (p:List Ev)=>J (htmls p)) W.heap.size (.cells #[.func (.yield l) #[] #[]] 30 (0,0)) (pre++[ev]) O' w')∨(e=.returned (.bool false)∧∃ O',Fp O O' W2 w'∧With (fun (p:List Ev)=>Jx (htmls p)) W.heap.size (.cells #[.func (.yield l) #[] #[]] 30 (0,0)) (pre++[ev]) O' w'):=by
      intro w1 hb1
      have hb1:Below W2.heap.size W2 w1:=⟨hb1.os,hb1.tape,hb1.output,hb1.size,hb1.block⟩
      have j3lt:=kJ.lt _ _ _ j1
      have j1':=kJ.keep _ _ _ _ j1 (fun x hx=>hb1.block x (j3lt x hx)) hb1.size
      have hbx:=(Array.getElem?_eq_some_iff.1 j2).1
      have j2':=(hb1.block _ hbx).trans j2
      have hzz:=hb2.size
      refine ⟨cell_of_one j2',YieldAt.mono (hY (htmls pre) (htmlS ev) (htmls rest) O3 w1 (by rw [← hx];simp [htmls]) (hb2.trans (hb1.mono hzz)) (fun y hy=>hlo y ((e3 y).2 (Or.inl ((j4 y).2 (Or.inl hy))))) j1') ?_⟩
      rintro e w' ⟨O',hf,hc⟩
      have hm:htmls (pre++[ev])=htmls pre++[htmlS ev]:=by simp [htmls]
      have fin:∀ (K:List (List UInt8)→(Nat→Prop)→World→Prop),K (htmls pre++[htmlS ev]) O' w'→∃ O'',Fp O O'' W2 w'∧With (fun (p:List Ev)=>K (htmls p)) W.heap.size (.cells #[.func (.yield l) #[] #[]] 30 (0,0)) (pre++[ev]) O'' w':=by
        intro K hK
        have t:=With.turn (J:=fun (p:List Ev)=>J (htmls p)) (K:=fun (p:List Ev)=>K (htmls p)) kH (s:=pre) (s':=pre++[ev]) (O:=fun x=>O3 x∨x=W.heap.size) j1' j2' j3 (fun x=>Iff.rfl) hf (by show K (htmls (pre++[ev])) O' w';rw [hm];exact hK)
        refine ⟨_,?_,t.1⟩
        have f2:=t.2
        refine ⟨f2.os.trans hb1.os,f2.tape.trans hb1.tape,f2.output.trans hb1.output,Nat.le_trans hb1.size f2.size,fun x hx ho=>?_,fun x hx=>?_⟩
        · refine (f2.block x (Nat.lt_of_lt_of_le hx hb1.size) fun h=>ho ((e3 x).2 (Or.inl ((j4 x).2 h)))).trans (hb1.block x hx)
        · rcases f2.grow x hx with h | h
          · exact Or.inl ((e3 x).2 (Or.inl ((j4 x).2 h)))
          · exact Or.inr (Nat.le_trans hb1.size h)
      rcases hc with ⟨rfl,hj⟩ | ⟨rfl,hj⟩
      · exact Or.inl ⟨rfl,fin J hj⟩
      · exact Or.inr ⟨rfl,fin Jx hj⟩
    have STEP:Hid _:=kW2
    have cO:∀ w,Calls Tryz.prog 97 #[.agg #[.int .i64 ev.kind,.bool ev.fin,.int .i64 ev.level,.string ⟨ev.text.toArray⟩]] w fun e w'=>e=.returned (.string ⟨(htmlS ev).toArray⟩)∧Hid (Below w.heap.size w w'):=fun w=>one_any ev t1 t2 t3 t4 w
    obtain ⟨P,hP⟩:∃ P,fpPost (With (fun p=>J (htmls p)) W.heap.size (Obj.cells #[Value.func (Fn.yield l) #[] #[]] 30)) (With (fun p=>Jx (htmls p)) W.heap.size (Obj.cells #[Value.func (Fn.yield l) #[] #[]] 30)) (pre++[ev]) O W2=P:=⟨_,rfl⟩
    rw [hP]
    have HP:Hid _:=hP
    generalize hh:htmlS ev=hs at STEP cO
    clear hP hY hseq kW2 FINL e0 e1 e2 e3 j1 j2 j3 j4 hx hb2 hlo t1 t2 t3 t4 hh hJ hd r1 r2 r3 r4 hlow hxs hW hW1 x1 cbe1 hbW1 hRlt hJlt kH kHx kR kR' kJ kX z1 eg hbe hz0
    unfold evV
    gi_wp2
    gi_region_with_o (first
      | (refine ⟨trivial,rfl,?_⟩;gi_at_call 97;refine (CallsIn.inRound l' (callsIn_wide.2 (cO _))).mono ?_;rintro e w1 ⟨rfl,HW⟩;obtain ⟨y3,fn,tm,asg,bod,hy,hR⟩:=STEP.out w1 HW.out;have HRR:Hid (RoundIn Fence.wide 0 Tryz.prog l fn tm asg bod w1 fun e w'=>∃ bb,e=.returned (.bool bb)∧Hid ((bb=true∧∃ O',Fp O O' W2 w'∧With (fun (p:List Ev)=>J (htmls p)) W.heap.size (.cells #[.func (.yield l) #[] #[]] 30 (0,0)) (pre++[ev]) O' w')∨(bb=false∧∃ O',Fp O O' W2 w'∧With (fun (p:List Ev)=>Jx (htmls p)) W.heap.size (.cells #[.func (.yield l) #[] #[]] 30 (0,0)) (pre++[ev]) O' w'))):=hR.mono (fun e w' h=>by rcases h with ⟨rfl,h⟩ | ⟨rfl,h⟩;exact ⟨true,rfl,Or.inl ⟨rfl,h⟩⟩;exact ⟨false,rfl,Or.inr ⟨rfl,h⟩⟩);clear hR)
      | (refine ⟨rfl,?_⟩;refine RoundIn.mono HRR.out ?_;rintro e w2 ⟨bb,rfl,HG⟩))
    all_goals
      cases bb with
      | true =>
        gi_wp2
        rw [← HP.out]
        rcases HG.out with ⟨_,h⟩ | ⟨h,_⟩
        · exact h
        · cases h
      | false =>
        gi_wp2
        rw [← HP.out]
        rcases HG.out with ⟨h,_⟩ | ⟨_,h⟩
        · cases h
        · exact h
  case done =>
    rintro D OI' O' W3 hR' hI hdis hf hK hDl nD1 nD2
    obtain ⟨OJ',q1,q2,q3,q4⟩:=FINL J kJ xs D OI' O' W3 hR' hI hdis hf hDl nD1 nD2
    show bodyPostM _ _ _ _ _ Exit.normal _ _
    refine ⟨by simp,.inl ⟨_,_,rfl,run_takeDeferred hK,?_⟩⟩
    exact ⟨_,results_none rfl _ _ _,⟨_,rfl⟩,_,OJ',q1,q2,q3,Or.inl q4⟩
  case stop =>
    rintro D pre OI' O' W3 hR' hI hdis hf hK hDl nD1 nD2
    obtain ⟨OJ',q1,q2,q3,q4⟩:=FINL Jx kX pre D OI' O' W3 hR' hI hdis hf hDl nD1 nD2
    clear hY hseq FINL
    gi_wp2
    refine ⟨by simp,.inl ⟨_,_,rfl,run_takeDeferred hK,?_⟩⟩
    exact ⟨_,results_none rfl _ _ _,⟨_,rfl⟩,_,OJ',q1,q2,q3,Or.inr ⟨_,q4⟩⟩
end Go.Proofs.YtljcljipppjnoaaGreatDoor
