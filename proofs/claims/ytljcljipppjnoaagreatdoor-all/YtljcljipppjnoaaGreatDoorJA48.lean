import Derived.Test.YtljcljipppjnoaaGreatDoorJA42
import Derived.Test.YtljcljipppjnoaaGreatDoorJA46
import Derived.Test.YtljcljipppjnoaaGreatDoorJA47
import Derived.Shelf.Bytes.SlSmallAll
namespace Go.Proofs.YtljcljipppjnoaaGreatDoor
open Go.RowKit Go.Shelf
def RunSt (s:Option Ou) (bk bo:Nat) (page:List UInt8) (ps pre:List (List UInt8)) (O:Nat→Prop) (W:World):Prop :=
  ∃ of tk mo got left,RunAt s bk bo page of tk mo got left (ps.drop pre.length).flatten O W
theorem RunSt.own (s:Option Ou) (bk bo:Nat) (page:List UInt8) (ps:List (List UInt8)):OwnS (RunSt s bk bo page ps):=by
  refine ⟨?_,?_⟩
  · rintro pre O W w' ⟨of,tk,mo,got,left,h⟩ hk hz
    exact ⟨of,tk,mo,got,left,h.keep hk hz⟩
  · rintro pre O W ⟨of,tk,mo,got,left,h⟩
    exact h.lt
def FailSt (aS:Addr) (s:Option Ou) (bk br bq:Nat) (page:List UInt8) (_pre:List (List UInt8)) (O:Nat→Prop) (W:World):Prop :=
  ∃ (O1:Nat→Prop) (t:TypeId) (x:Value) (u:Ou) (of N mo:Nat) (got:List UInt8),s=some u∧FailS aS u bk page of N mo got (.iface t x) O1 W∧W.heap[br]?=some (.cells #[.int .i64 N] 3 (0,0))∧W.heap[bq]?=some (.cells #[.iface t x] 98 (0,0))∧¬ O1 br∧¬ O1 bq∧∀ y,O y ↔ (O1 y∨y=br∨y=bq)
theorem FailSt.own (aS:Addr) (s:Option Ou) (bk br bq:Nat) (page:List UInt8):OwnS (FailSt aS s bk br bq page):=by
  refine ⟨?_,?_⟩
  · rintro pre O W w' ⟨O1,t,x,u,of,N,mo,got,h1,h2,h3,h4,h5,h6,h7⟩ hk hz
    exact ⟨O1,t,x,u,of,N,mo,got,h1,h2.keep (fun y hy=>hk y ((h7 y).2 (Or.inl hy))) hz,(hk br ((h7 br).2 (Or.inr (Or.inl rfl)))).trans h3,(hk bq ((h7 bq).2 (Or.inr (Or.inr rfl)))).trans h4,h5,h6,h7⟩
  · rintro pre O W ⟨O1,t,x,u,of,N,mo,got,h1,h2,h3,h4,h5,h6,h7⟩ y hy
    rcases (h7 y).1 hy with h | rfl | rfl
    · exact h2.lt y h
    · exact (Array.getElem?_eq_some_iff.1 h3).1
    · exact (Array.getElem?_eq_some_iff.1 h4).1
def Framed {α:Type} (I:List α→(Nat→Prop)→World→Prop) (tm:α→Array Value) (s:List α × α × Act) (O:Nat→Prop) (W:World):Prop:=s.2.2={ tmps:=tm s.2.1,defers:=[] }∧I s.1 O W
theorem Framed.own {α:Type} {I:List α→(Nat→Prop)→World→Prop} (kI:OwnS I) (tm:α→Array Value):OwnS (Framed I tm):=by
  refine ⟨?_,?_⟩
  · rintro s O W w' ⟨e,h⟩ hk hz
    exact ⟨e,kI.keep _ _ _ _ h hk hz⟩
  · rintro s O W ⟨e,h⟩
    exact kI.lt _ _ _ h
def AllEnd (aS:Addr) (s:Option Ou) (bk:Nat) (page:List UInt8) (OK:Nat→Prop) (e:Ending) (W:World):Prop :=
  (∃ bo of tk mo got,e=.returned (.tuple #[.int .i64 (tk:Nat),.nilIface])∧RunAt s bk bo page of tk mo got [] [] OK W) ∨
  (∃ (t:TypeId) (x:Value) (u:Ou) (of N mo:Nat) (got:List UInt8),e=.returned (.tuple #[.int .i64 N,.iface t x])∧s=some u∧FailS aS u bk page of N mo got (.iface t x) OK W)
def AllOut (aS:Addr) (s:Option Ou) (bk:Nat) (page:List UInt8) (R':(Nat→Prop)→World→Prop) (OI OK:Nat→Prop) (W:World) (e:Ending) (w':World):Prop :=
  ∃ OI' OK',R' OI' w'∧(∀ x,OI' x→¬ OK' x)∧Fp (fun x=>OI x∨OK x) (fun x=>OI' x∨OK' x) W w'∧AllEnd aS s bk page OK' e w'
theorem RunAt.piece {s:Option Ou} {bk bo:Nat} {page:List UInt8} {of tk mo:Nat} {got left p rest:List UInt8} {O:Nat→Prop} {W:World} (h:RunAt s bk bo page of tk mo got left (p++rest) O W):RunAt s bk bo page of tk mo got (left++p) rest O (W.setCell ⟨bo,1,none⟩ (.string ⟨(left++p).toArray⟩)):=by
  have e1:=Joins.block_setCell (i:=1) h.box (.string ⟨(left++p).toArray⟩)
  refine ⟨by simpa using e1,h.ob,fun u hu=>?_,h.run.piece,h.mo,fun x hx=>by have:=h.lt x hx;simpa using this⟩
  obtain ⟨O1,s1,s2,s3⟩:=h.snk u hu
  exact ⟨O1,s1.keep (fun x hx=>Below.heap_setCell _ _ _ _ (fun e=>s3 (by have e:x=bo:=e;rw [← e];exact hx))) (by simp),s2,s3⟩
abbrev obInt:Obj:=.cells #[.int .i64 0] 3 (0,0)
abbrev obErr:Obj:=.cells #[.nilIface] 98 (0,0)
def AllSt (s:Option Ou) (bk br bq bo:Nat) (page:List UInt8) (ps:List (List UInt8)):List (List UInt8)→(Nat→Prop)→World→Prop:=With (With (RunSt s bk bo page ps) br obInt) bq obErr
theorem AllSt.own (s:Option Ou) (bk br bq bo:Nat) (page:List UInt8) (ps:List (List UInt8)):OwnS (AllSt s bk br bq bo page ps):=With.own (With.own (RunSt.own s bk bo page ps) br obInt) bq obErr
theorem all_round {w0:World} {aS:Addr} (hS:w0.cell? ⟨0,0,none⟩=some (sinkV aS)) {s:Option Ou} (hu:∀ u,s=some u→u.Ok w0) {bk br bq bo:Nat} {ps:List (List UInt8)} (hps:ps.flatten.length≤68719476736) (hne:br ≠ bq∧br ≠ bo∧bq ≠ bo) {pre rest:List (List UInt8)} {p:List UInt8} {O:Nat→Prop} {W:World} (hx:pre++p :: rest=ps) (hb:Below w0.heap.size w0 W) (hlo:∀ y,O y→w0.heap.size≤y) (h:AllSt s bk br bq bo ps.flatten ps pre O W) :
    ∃ left:List UInt8,(left.length≤68719476736∧p.length≤68719476736)∧W.cell? ⟨bo,1,none⟩=some (.string ⟨left.toArray⟩)∧W.frozen? ⟨bo,1,none⟩=false ∧
      Calls Tryz.prog 95 #[.pointer (some ⟨bo,0,none⟩),.int .i64 16] (W.setCell ⟨bo,1,none⟩ (.string ⟨(left++p).toArray⟩)) fun e w' =>
        (e=.returned .nilIface∧Hid (∃ O',Fp O O' W w'∧AllSt s bk br bq bo ps.flatten ps (pre++[p]) O' w')) ∨
        (∃ (t:TypeId) (x:Value) (N:Nat),e=.returned (.iface t x)∧w'.cell? ⟨bo,2,none⟩=some (.int .i64 N)∧w'.cell? ⟨br,0,none⟩=some (.int .i64 0)∧w'.frozen? ⟨br,0,none⟩=false∧w'.cell? ⟨bq,0,none⟩=some .nilIface∧w'.frozen? ⟨bq,0,none⟩=false∧Hid (∃ O',Fp O O' W ((w'.setCell ⟨br,0,none⟩ (.int .i64 N)).setCell ⟨bq,0,none⟩ (.iface t x))∧FailSt aS s bk br bq ps.flatten (pre++[p]) O' ((w'.setCell ⟨br,0,none⟩ (.int .i64 N)).setCell ⟨bq,0,none⟩ (.iface t x)))):=by
  obtain ⟨O2,⟨O3,⟨of,tk,mo,got,left,hr⟩,k2,k3,k4⟩,m2,m3,m4⟩:=h
  have hrest:(ps.drop pre.length).flatten=p++(ps.drop (pre++[p]).length).flatten:=by
    rw [← hx]
    simp
  rw [hrest] at hr
  have hsum:=hr.run.sum
  rw [List.length_append] at hsum
  have hloO3:∀ y,O3 y→w0.heap.size≤y:=fun y hy=>hlo y ((m4 y).2 (Or.inl ((k4 y).2 (Or.inl hy))))
  have hz:=hb.size
  have hbo:=hr.lt bo hr.ob
  have hbr:=(Array.getElem?_eq_some_iff.1 k2).1
  have hbq:=(Array.getElem?_eq_some_iff.1 m2).1
  have nbq3:¬ O3 bq:=fun h=>m3 ((k4 bq).2 (Or.inl h))
  have r2:=hr.piece
  obtain ⟨W1,hW1⟩:∃ W1,W.setCell ⟨bo,1,none⟩ (.string ⟨(left++p).toArray⟩)=W1:=⟨_,rfl⟩
  have z1:W1.heap.size=W.heap.size:=by rw [← hW1];simp
  have o1:∀ y,y ≠ bo→W1.heap[y]?=W.heap[y]?:=fun y hy=>by rw [← hW1];exact Below.heap_setCell _ _ _ _ hy
  have f1:W1.os=W.os∧W1.tape=W.tape∧W1.output=W.output:=by rw [← hW1];exact ⟨rfl,rfl,rfl⟩
  rw [hW1] at r2
  have lob:=hloO3 bo hr.ob
  have b1:Below w0.heap.size w0 W1:=hb.trans ⟨f1.1,f1.2.1,f1.2.2,by omega,fun y hy=>o1 y (by omega)⟩
  refine ⟨left,⟨by omega,by omega⟩,row_cell (i:=1) hr.box rfl,row_free (i:=1) hr.box,?_⟩
  rw [hW1]
  refine (while_any hS hu hps r2 b1 hloO3 16 (by omega) (by omega)).mono ?_
  rintro e w' ⟨O',hf,hc⟩
  have z2:=hf.size
  have fpW:∀ y,y < W.heap.size→¬ O3 y→w'.heap[y]?=W.heap[y]?:=fun y hy ho=>(hf.block y (by omega) ho).trans (o1 y (fun e=>ho (e ▸ hr.ob)))
  have hgrow:∀ y,O' y→O3 y∨W.heap.size≤y:=fun y hy=>(hf.grow y hy).imp id (fun h=>by omega)
  have br':=(fpW br hbr k3).trans k2
  have bq':=(fpW bq hbq nbq3).trans m2
  have nbr:¬ O' br:=fun h=>by
    rcases hgrow br h with h | h
    · exact k3 h
    · omega
  have nbq:¬ O' bq:=fun h=>by
    rcases hgrow bq h with h | h
    · exact nbq3 h
    · omega
  have gr3:∀ y,O3 y→O y:=fun y hy=>(m4 y).2 (Or.inl ((k4 y).2 (Or.inl hy)))
  have obr:O br:=(m4 br).2 (Or.inl ((k4 br).2 (Or.inr rfl)))
  have obq:O bq:=(m4 bq).2 (Or.inr rfl)
  rcases hc with ⟨rfl,of',tk',mo',got',left',r3,_⟩ | ⟨ev,u,of',N,mo',got',left',rfl,⟨t,x,rfl⟩,hsu,_,hb3,ob3,hF⟩
  · refine Or.inl ⟨rfl,fun y=>(O' y∨y=br)∨y=bq,⟨hf.os.trans f1.1,hf.tape.trans f1.2.1,hf.output.trans f1.2.2,by omega,fun y hy ho=>fpW y hy fun h=>ho (gr3 y h),fun y hy=>?_⟩,fun y=>O' y∨y=br,⟨O',⟨of',tk',mo',got',left',r3⟩,br',nbr,fun y=>Iff.rfl⟩,bq',?_,fun y=>Iff.rfl⟩
    · rcases hy with (hy | rfl) | rfl
      · exact (hgrow y hy).imp (gr3 y) id
      · exact Or.inl obr
      · exact Or.inl obq
    · rintro (h | h)
      · exact nbq h
      · exact hne.1 h.symm
  · refine Or.inr ⟨t,x,N,rfl,row_cell (i:=2) hb3 rfl,cell_of_one br',row_free (i:=0) br',cell_of_one bq',row_free (i:=0) bq',fun y=>O' y∨y=br∨y=bq,⟨hf.os.trans f1.1,hf.tape.trans f1.2.1,hf.output.trans f1.2.2,by simp;omega,fun y hy ho=>?_,fun y hy=>?_⟩,O',t,x,u,of',N,mo',got',hsu,hF.keep (fun y hy=>?_) (by simp),?_,?_,nbr,nbq,fun y=>Iff.rfl⟩
    · rw [Below.heap_setCell _ _ _ _ (fun e=>ho (by rw [e];exact obq)),Below.heap_setCell _ _ _ _ (fun e=>ho (by rw [e];exact obr))]
      exact fpW y hy fun h=>ho (gr3 y h)
    · rcases hy with hy | rfl | rfl
      · exact (hgrow y hy).imp (gr3 y) id
      · exact Or.inl obr
      · exact Or.inl obq
    · rw [Below.heap_setCell _ _ _ _ (fun e=>nbq (by have e:y=bq:=e;rw [← e];exact hy)),Below.heap_setCell _ _ _ _ (fun e=>nbr (by have e:y=br:=e;rw [← e];exact hy))]
    · rw [Below.heap_setCell _ _ _ _ hne.1]
      exact set_row (cur:=#[.int .i64 0]) br'
    · refine set_row (cur:=#[.nilIface]) ?_
      rw [Below.heap_setCell _ _ _ _ (Ne.symm hne.1)]
      exact bq'
theorem AllEnd.keep {aS:Addr} {s:Option Ou} {bk:Nat} {page:List UInt8} {OK:Nat→Prop} {e:Ending} {W w':World} (h:AllEnd aS s bk page OK e W) (hk:∀ x,OK x→w'.heap[x]?=W.heap[x]?) (hz:W.heap.size≤w'.heap.size):AllEnd aS s bk page OK e w':=by
  rcases h with ⟨bo,of,tk,mo,got,h1,h2⟩ | ⟨t,x,u,of,N,mo,got,h1,h2,h3⟩
  · exact Or.inl ⟨bo,of,tk,mo,got,h1,h2.keep hk hz⟩
  · exact Or.inr ⟨t,x,u,of,N,mo,got,h1,h2,h3.keep hk hz⟩
theorem AllEnd.lt {aS:Addr} {s:Option Ou} {bk:Nat} {page:List UInt8} {OK:Nat→Prop} {e:Ending} {W:World} (h:AllEnd aS s bk page OK e W):∀ x,OK x→x < W.heap.size:=by
  rcases h with ⟨bo,of,tk,mo,got,h1,h2⟩ | ⟨t,x,u,of,N,mo,got,h1,h2,h3⟩
  · exact h2.lt
  · exact h3.lt
theorem all_last {w0:World} {aS:Addr} (hS:w0.cell? ⟨0,0,none⟩=some (sinkV aS)) {s:Option Ou} (hu:∀ u,s=some u→u.Ok w0) {bk br bq bo:Nat} {ps:List (List UInt8)} (hps:ps.flatten.length≤68719476736) (hne:br ≠ bq∧br ≠ bo∧bq ≠ bo) {O:Nat→Prop} {W:World} (hb:Below w0.heap.size w0 W) (hlo:∀ y,O y→w0.heap.size≤y) (h:AllSt s bk br bq bo ps.flatten ps ps O W) :
    Calls Tryz.prog 95 #[.pointer (some ⟨bo,0,none⟩),.int .i64 1] W fun e w' =>
      ∃ (ev:Value) (N:Nat),e=.returned ev∧Hid (ev=.nilIface∨∃ t x,ev=.iface t x)∧w'.cell? ⟨bo,2,none⟩=some (.int .i64 N)∧w'.cell? ⟨br,0,none⟩=some (.int .i64 0)∧w'.frozen? ⟨br,0,none⟩=false∧w'.cell? ⟨bq,0,none⟩=some .nilIface∧w'.frozen? ⟨bq,0,none⟩=false ∧
        Hid (∃ OE,Fp O OE W ((w'.setCell ⟨br,0,none⟩ (.int .i64 N)).setCell ⟨bq,0,none⟩ ev)∧AllEnd aS s bk ps.flatten OE (.returned (.tuple #[.int .i64 N,ev])) ((w'.setCell ⟨br,0,none⟩ (.int .i64 N)).setCell ⟨bq,0,none⟩ ev)∧((w'.setCell ⟨br,0,none⟩ (.int .i64 N)).setCell ⟨bq,0,none⟩ ev).heap[br]?=some (.cells #[.int .i64 N] 3 (0,0))∧((w'.setCell ⟨br,0,none⟩ (.int .i64 N)).setCell ⟨bq,0,none⟩ ev).heap[bq]?=some (.cells #[ev] 98 (0,0))):=by
  obtain ⟨O2,⟨O3,⟨of,tk,mo,got,left,hr⟩,k2,k3,k4⟩,m2,m3,m4⟩:=h
  rw [List.drop_length] at hr
  have hloO3:∀ y,O3 y→w0.heap.size≤y:=fun y hy=>hlo y ((m4 y).2 (Or.inl ((k4 y).2 (Or.inl hy))))
  have hbr:=(Array.getElem?_eq_some_iff.1 k2).1
  have hbq:=(Array.getElem?_eq_some_iff.1 m2).1
  have nbq3:¬ O3 bq:=fun h=>m3 ((k4 bq).2 (Or.inl h))
  refine (while_any hS hu hps hr hb hloO3 1 (by omega) (by omega)).mono ?_
  rintro e w' ⟨O',hf,hc⟩
  have z2:=hf.size
  have br':=(hf.block br hbr k3).trans k2
  have bq':=(hf.block bq hbq nbq3).trans m2
  have nbr:¬ O' br:=fun h=>by
    rcases hf.grow br h with h | h
    · exact k3 h
    · omega
  have nbq:¬ O' bq:=fun h=>by
    rcases hf.grow bq h with h | h
    · exact nbq3 h
    · omega
  have gr3:∀ y,O3 y→O y:=fun y hy=>(m4 y).2 (Or.inl ((k4 y).2 (Or.inl hy)))
  have obr:O br:=(m4 br).2 (Or.inl ((k4 br).2 (Or.inr rfl)))
  have obq:O bq:=(m4 bq).2 (Or.inr rfl)
  have fin:∀ (ev:Value) (N:Nat),(ev=.nilIface∨∃ t x,ev=.iface t x)→e=.returned ev→w'.cell? ⟨bo,2,none⟩=some (.int .i64 N)→AllEnd aS s bk ps.flatten O' (.returned (.tuple #[.int .i64 N,ev])) w'→∃ (ev:Value) (N:Nat),e=.returned ev∧Hid (ev=.nilIface∨∃ t x,ev=.iface t x)∧w'.cell? ⟨bo,2,none⟩=some (.int .i64 N)∧w'.cell? ⟨br,0,none⟩=some (.int .i64 0)∧w'.frozen? ⟨br,0,none⟩=false∧w'.cell? ⟨bq,0,none⟩=some .nilIface∧w'.frozen? ⟨bq,0,none⟩=false ∧
        Hid (∃ OE,Fp O OE W ((w'.setCell ⟨br,0,none⟩ (.int .i64 N)).setCell ⟨bq,0,none⟩ ev)∧AllEnd aS s bk ps.flatten OE (.returned (.tuple #[.int .i64 N,ev])) ((w'.setCell ⟨br,0,none⟩ (.int .i64 N)).setCell ⟨bq,0,none⟩ ev)∧((w'.setCell ⟨br,0,none⟩ (.int .i64 N)).setCell ⟨bq,0,none⟩ ev).heap[br]?=some (.cells #[.int .i64 N] 3 (0,0))∧((w'.setCell ⟨br,0,none⟩ (.int .i64 N)).setCell ⟨bq,0,none⟩ ev).heap[bq]?=some (.cells #[ev] 98 (0,0))):=by
    intro ev N h1 h2 h3 h4
    refine ⟨ev,N,h2,h1,h3,cell_of_one br',row_free (i:=0) br',cell_of_one bq',row_free (i:=0) bq',O',⟨hf.os,hf.tape,hf.output,by simp;omega,fun y hy ho=>?_,fun y hy=>(hf.grow y hy).imp (gr3 y) id⟩,h4.keep (fun y hy=>?_) (by simp),?_,?_⟩
    · rw [Below.heap_setCell _ _ _ _ (fun e=>ho (by rw [e];exact obq)),Below.heap_setCell _ _ _ _ (fun e=>ho (by rw [e];exact obr))]
      exact hf.block y hy fun h=>ho (gr3 y h)
    · rw [Below.heap_setCell _ _ _ _ (fun e=>nbq (by have e:y=bq:=e;rw [← e];exact hy)),Below.heap_setCell _ _ _ _ (fun e=>nbr (by have e:y=br:=e;rw [← e];exact hy))]
    · rw [Below.heap_setCell _ _ _ _ hne.1]
      exact set_row (cur:=#[.int .i64 0]) br'
    · refine set_row (cur:=#[.nilIface]) ?_
      rw [Below.heap_setCell _ _ _ _ (Ne.symm hne.1)]
      exact bq'
  rcases hc with ⟨rfl,of',tk',mo',got',left',r3,hl⟩ | ⟨ev,u,of',N,mo',got',left',rfl,⟨t,x,rfl⟩,hsu,_,hb3,ob3,hF⟩
  · have hl0:left'=[]:=List.eq_nil_of_length_eq_zero (by have hl:left'.length < 1:=hl;omega)
    subst hl0
    exact fin .nilIface tk' (Or.inl rfl) rfl (row_cell (i:=2) r3.box rfl) (Or.inl ⟨bo,of',tk',mo',got',rfl,r3⟩)
  · exact fin (.iface t x) N (Or.inr ⟨t,x,rfl⟩) rfl (row_cell (i:=2) hb3 rfl) (Or.inr ⟨t,x,u,of',N,mo',got',rfl,hsu,hF⟩)
set_option maxRecDepth 100000 in
set_option maxHeartbeats 4000000 in
theorem offers_all {w0:World} {aS:Addr} (hS:w0.cell? ⟨0,0,none⟩=some (sinkV aS)) {s:Option Ou} (hu:∀ u,s=some u→u.Ok w0) {gf:Nat} {lb:Array Value} (eg:∀ args w,(callFunc gf args).run Tryz.prog w=.ok (.enter gf args) w) {ps:List (List UInt8)} (hps:ps.flatten.length≤68719476736)
    {R R':(Nat→Prop)→World→Prop} (kR:OwnS fun (_:Unit)=>R) (kR':OwnS fun (_:Unit)=>R') (hseq:SeqF Tryz.prog w0 gf lb (fun p:List UInt8=>#[.string ⟨p.toArray⟩]) ps R R') {bk:Nat} {OI OK:Nat→Prop} {W:World} (hW:Below w0.heap.size w0 W) (hlow:∀ x,OI x∨OK x→w0.heap.size≤x) (hR:R OI W) (hK:∀ u,s=some u→SkAt u bk 0 0 [] OK W) (hKlt:∀ x,OK x→x < W.heap.size) (hd:∀ x,OI x→¬ OK x) :
    Calls Tryz.prog 75 #[svOf s bk,.func (.func gf) #[] lb] W (AllOut aS s bk ps.flatten R' OI OK W):=by
  refine (callsIn_wide (n:=3)).1 ?_
  refine callsIn_of_wp_marks Tryz.func75 rfl trivial ?_
  simp only [Tryz.ntmps75,List.size_toArray,List.length_cons,List.length_nil,Nat.reduceAdd,Nat.reduceSub,Array.replicate_succ,Array.replicate_zero,List.push_toArray,List.append_toArray,List.nil_append,List.cons_append]
  have hsv:=svOf_ie s bk
  obtain ⟨sv,hsve⟩:∃ sv,svOf s bk=sv:=⟨_,rfl⟩
  rw [hsve] at hsv ⊢
  have HSV:Hid (svOf s bk=sv):=hsve
  clear hsve
  have kA:=AllSt.own s bk W.heap.size (W.heap.size+1) (W.heap.size+1+1) ps.flatten ps
  have kF:=FailSt.own aS s bk W.heap.size (W.heap.size+1) ps.flatten
  have hz0:=hW.size
  have hRlt:=kR.lt () _ _ hR
  obtain ⟨W3,hW3⟩:∃ W3,((W.alloc (.cells #[.int .i64 0] 3)).alloc (.cells #[.nilIface] 98)).alloc (.cells #[sv,.string ⟨#[]⟩,.int .i64 0] 184)=W3:=⟨_,rfl⟩
  have b3:Below W.heap.size W W3:=by rw [← hW3];exact (((Below.refl _ W).alloc (Nat.le_refl _) _).alloc (by simp) _).alloc (by simp;omega) _
  have z3:W3.heap.size=W.heap.size+3:=by rw [← hW3];simp
  have n0:W3.heap[W.heap.size]?=some obInt:=by
    rw [← hW3,Below.heap_alloc _ _ _ (by simp;omega),Below.heap_alloc _ _ _ (by simp)]
    exact heap_new _ _ rfl
  have n1:W3.heap[W.heap.size+1]?=some obErr:=by
    rw [← hW3,Below.heap_alloc _ _ _ (by simp)]
    exact heap_new _ _ (by simp)
  have n2:W3.heap[W.heap.size+1+1]?=some (.cells #[sv,.string ⟨#[]⟩,.int .i64 0] 184 (0,0)):=by
    rw [← hW3]
    exact heap_new _ _ (by simp)
  have hbW3:Below w0.heap.size w0 W3:=hW.trans (b3.mono hz0)
  have run0:RunAt s bk (W.heap.size+1+1) ps.flatten 0 0 0 [] [] (ps.drop ([]:List (List UInt8)).length).flatten (fun x=>OK x∨x=W.heap.size+1+1) W3:=by
    refine ⟨by rw [HSV.out];exact n2,Or.inr rfl,fun u hu'=>⟨OK,(hK u hu').keep (fun x hx=>b3.block x (hKlt x hx)) b3.size,fun x hx=>Or.inl hx,fun h=>by have:=hKlt _ h;omega⟩,Run.start _ _ _ _ _,Nat.zero_le _,fun x hx=>?_⟩
    rcases hx with hx | rfl
    · have:=hKlt x hx;omega
    · omega
  have st0:AllSt s bk W.heap.size (W.heap.size+1) (W.heap.size+1+1) ps.flatten ps [] (fun x=>((OK x∨x=W.heap.size+1+1)∨x=W.heap.size)∨x=W.heap.size+1) W3:=by
    refine ⟨_,⟨_,⟨0,0,0,[],[],run0⟩,n0,?_,fun x=>Iff.rfl⟩,n1,?_,fun x=>Iff.rfl⟩
    · rintro (h | h)
      · have:=hKlt _ h;omega
      · omega
    · rintro ((h | h) | h)
      · have:=hKlt _ h;omega
      · omega
      · omega
  have cRnd:=fun {pre rest:List (List UInt8)} {p:List UInt8} {O:Nat→Prop} {W:World} (hx:pre++p :: rest=ps) (hb:Below w0.heap.size w0 W) (hlo:∀ y,O y→w0.heap.size≤y) h=>all_round hS hu hps (bk:=bk) (br:=W3.heap.size - 3) (bq:=W3.heap.size - 2) (bo:=W3.heap.size - 1) (by omega) hx hb hlo h
  rw [show W3.heap.size - 3=W.heap.size by omega,show W3.heap.size - 2=W.heap.size+1 by omega,show W3.heap.size - 1=W.heap.size+1+1 by omega] at cRnd
  have hr3:R OI W3:=kR.keep () _ _ _ hR (fun x hx=>b3.block x (hRlt x hx)) b3.size
  have CR:Hid _:=@cRnd
  have fin:∀ (D:Nat) (OI' O':Nat→Prop) (W4:World) (OE:Nat→Prop) (w2:World) (ev:Value) (N:Nat),R' OI' W4→(∀ x,OI' x→¬ O' x)→Fp (fun x=>OI x∨(((OK x∨x=W.heap.size+1+1)∨x=W.heap.size)∨x=W.heap.size+1)) (fun x=>OI' x∨O' x) W3 W4→W4.heap[D]?=some (.deferred (some []))→W3.heap.size≤D→¬ OI' D→¬ O' D→Fp O' OE W4 w2→AllEnd aS s bk ps.flatten OE (.returned (.tuple #[.int .i64 N,ev])) w2→w2.heap[W.heap.size]?=some (.cells #[.int .i64 N] 3 (0,0))→w2.heap[W.heap.size+1]?=some (.cells #[ev] 98 (0,0)) →
      w2.heap[D]?=some (.deferred (some []))∧(w2.putObj D (.deferred none)).cell? ⟨W.heap.size,0,none⟩=some (.int .i64 N)∧(w2.putObj D (.deferred none)).cell? ⟨W.heap.size+1,0,none⟩=some ev∧AllOut aS s bk ps.flatten R' OI OK W (.returned (.tuple #[.int .i64 N,ev])) (w2.putObj D (.deferred none)):=by
    intro D OI' O' W4 OE w2 ev N hR' hdis hf hD hDl nD1 nD2 fE aE h1 h2
    have hDlt:=(Array.getElem?_eq_some_iff.1 hD).1
    have hR'lt:=kR'.lt () _ _ hR'
    have zf:=hf.size
    have zE:=fE.size
    have nDE:¬ OE D:=fun h=>by
      rcases fE.grow D h with h | h
      · exact nD2 h
      · omega
    have kOI:∀ x,OI' x→w2.heap[x]?=W4.heap[x]?:=fun x hx=>fE.block x (hR'lt x hx) fun h=>hdis x hx h
    have hdis':∀ x,OI' x→¬ OE x:=fun x hx ho=>by
      rcases fE.grow x ho with h | h
      · exact hdis x hx h
      · have:=hR'lt x hx;omega
    refine ⟨(fE.block D hDlt nD2).trans hD,(World.cell?_of_block (World.putObj_heap_other (show (⟨W.heap.size,0,none⟩:Addr).block ≠ D by show W.heap.size ≠ D;omega))).trans (cell_of_one h1),(World.cell?_of_block (World.putObj_heap_other (show (⟨W.heap.size+1,0,none⟩:Addr).block ≠ D by show W.heap.size+1 ≠ D;omega))).trans (cell_of_one h2),OI',OE,kR'.keep () _ _ _ hR' (fun x hx=>(World.putObj_heap_other (show x ≠ D from fun e=>nD1 (e ▸ hx))).trans (kOI x hx)) (by simp;omega),hdis',⟨fE.os.trans (hf.os.trans b3.os),fE.tape.trans (hf.tape.trans b3.tape),fE.output.trans (hf.output.trans b3.output),by simp;omega,fun x hx ho=>?_,fun x hx=>?_⟩,aE.keep (fun x hx=>World.putObj_heap_other (fun e=>nDE (e ▸ hx))) (by simp)⟩
    · have nx:¬ (OI x∨(((OK x∨x=W.heap.size+1+1)∨x=W.heap.size)∨x=W.heap.size+1)):=by
        rintro (h | (((h | h) | h) | h))
        · exact ho (Or.inl h)
        · exact ho (Or.inr h)
        · omega
        · omega
        · omega
      have nx':¬ O' x:=fun h=>by
        rcases hf.grow x (Or.inr h) with h | h
        · exact nx h
        · omega
      exact (World.putObj_heap_other (by omega)).trans ((fE.block x (by omega) nx').trans ((hf.block x (by omega) nx).trans (b3.block x hx)))
    · have key:OI' x∨O' x→(OI x∨OK x)∨W.heap.size≤x:=fun h=>by
        rcases hf.grow x h with (h | (((h | h) | h) | h)) | h
        · exact Or.inl (Or.inl h)
        · exact Or.inl (Or.inr h)
        · exact Or.inr (by omega)
        · exact Or.inr (by omega)
        · exact Or.inr (by omega)
        · exact Or.inr (by omega)
      rcases hx with hx | hx
      · exact key (Or.inl hx)
      · rcases fE.grow x hx with h | h
        · exact key (Or.inr h)
        · exact Or.inr (by omega)
  have cLst:=fun {O:Nat→Prop} {W4:World} (hb:Below w0.heap.size w0 W4) (hlo:∀ y,O y→w0.heap.size≤y) h=>all_last hS hu hps (bk:=bk) (br:=W.heap.size) (bq:=W.heap.size+1) (bo:=W.heap.size+1+1) (by omega) hb hlo h
  have CL:Hid _:=@cLst
  have FIN:Hid _:=fin
  have Z3:Hid (w0.heap.size≤W3.heap.size):=hbW3.size
  clear fin cLst
  have HW3:Hid (((W.alloc (.cells #[.int .i64 0] 3)).alloc (.cells #[.nilIface] 98)).alloc (.cells #[sv,.string ⟨#[]⟩,.int .i64 0] 184)=W3):=hW3
  clear cRnd hW3 n0 n1 n2 b3 z3
  rcases hsv with rfl | ⟨us,xs,rfl⟩
  all_goals
    gi_wp2
    rw [HW3.out]
    first
    | refine rangeF (gf:=gf) (lb:=lb) rfl eg hseq (fun _=>rfl) kR kR' (AllSt s bk W.heap.size (W.heap.size+1) (W.heap.size+1+1) ps.flatten ps) (FailSt aS s bk W.heap.size (W.heap.size+1) ps.flatten) kA kF (OI:=OI) hbW3 ?low hr3 st0 ?apart (Framed (AllSt s bk W.heap.size (W.heap.size+1) (W.heap.size+1+1) ps.flatten ps) (fun p=>#[(.iface us xs),.func (.func gf) #[] lb,undef,undef,.pointer (some ⟨W.heap.size,0,none⟩),.pointer (some ⟨W.heap.size+1,0,none⟩),.pointer (some ⟨W.heap.size+1+1,0,none⟩),.string ⟨p.toArray⟩,undef,undef,(.iface us xs),.agg #[(.iface us xs),.string ⟨#[]⟩,.int .i64 0],.func (.func gf) #[] lb,.string ⟨p.toArray⟩,undef,undef,undef,undef,undef,undef,undef,undef,undef,undef,undef,undef,undef,undef,undef])) (Framed.own kA _) ?assign ?body ?done ?stop
    | refine rangeF (gf:=gf) (lb:=lb) rfl eg hseq (fun _=>rfl) kR kR' (AllSt s bk W.heap.size (W.heap.size+1) (W.heap.size+1+1) ps.flatten ps) (FailSt aS s bk W.heap.size (W.heap.size+1) ps.flatten) kA kF (OI:=OI) hbW3 ?low hr3 st0 ?apart (Framed (AllSt s bk W.heap.size (W.heap.size+1) (W.heap.size+1+1) ps.flatten ps) (fun p=>#[.nilIface,.func (.func gf) #[] lb,undef,undef,.pointer (some ⟨W.heap.size,0,none⟩),.pointer (some ⟨W.heap.size+1,0,none⟩),.pointer (some ⟨W.heap.size+1+1,0,none⟩),.string ⟨p.toArray⟩,undef,undef,.nilIface,.agg #[.nilIface,.string ⟨#[]⟩,.int .i64 0],.func (.func gf) #[] lb,.string ⟨p.toArray⟩,undef,undef,undef,undef,undef,undef,undef,undef,undef,undef,undef,undef,undef,undef,undef])) (Framed.own kA _) ?assign ?body ?done ?stop
    case low =>
      rintro x (h | (((h | h) | h) | h))
      · exact hlow x (Or.inl h)
      · exact hlow x (Or.inr h)
      · omega
      · omega
      · omega
    case apart =>
      rintro x h (((h1 | h1) | h1) | h1)
      · exact hd x h h1
      · have:=hRlt _ h;omega
      · have:=hRlt _ h;omega
      · have:=hRlt _ h;omega
    case assign =>
      intro l' pre p rest O W2 K hx hb2 hlo hI hK'
      have hsem:=@Oper.semAt_some
      have FI:Hid (AllSt s bk W.heap.size (W.heap.size+1) (W.heap.size+1+1) ps.flatten ps pre O W2):=hI
      have HK:Hid _:=hK'
      clear hI hK' hseq
      gi_wp2
      exact HK.out _ O _ (Fp.refl O W2) ⟨rfl,FI.out⟩
    case body =>
      rintro l' pre p rest a' O W2 hx hb2 hlo ⟨e0,hI⟩
      simp only at e0
      rw [e0]
      have hsem:=@Oper.semAt_some
      obtain ⟨left,⟨hl1,hl2⟩,c1,f1,cW⟩:=CR.out hx hb2 hlo hI
      have hz1:=size_of left
      have hz2:=size_of p
      have hba:=ba_app left p
      obtain ⟨P,hP⟩:∃ P,fpPost (AllSt s bk W.heap.size (W.heap.size+1) (W.heap.size+1+1) ps.flatten ps) (FailSt aS s bk W.heap.size (W.heap.size+1) ps.flatten) (pre++[p]) O W2=P:=⟨_,rfl⟩
      rw [hP]
      have HP:Hid _:=hP
      clear hP e0 hI hx hb2 hlo CR hseq hr3 st0 run0 hbW3 kA kF hRlt hK hKlt hd hR hlow hW HSV HW3 kR kR' eg hu hS hz0
      gi_wp2_with (refine ⟨trivial,rfl,?_⟩;gi_at_call 95;refine (CallsIn.inRound l' (callsIn_wide.2 cW)).mono ?_;rintro e w1 (⟨rfl,HG⟩ | ⟨t,x,N,rfl,x2,y0,y1,z0,z1,HG⟩))
      · rw [← HP.out]
        exact HG.out
      · rw [← HP.out]
        exact HG.out
    case done =>
      rintro D OI' O' W4 hR' hI hdis hf hD hDl nD1 nD2
      have hlow3:∀ x,(OI x∨(((OK x∨x=W.heap.size+1+1)∨x=W.heap.size)∨x=W.heap.size+1))→w0.heap.size≤x:=by
        rintro x (h | (((h | h) | h) | h))
        · exact hlow x (Or.inl h)
        · exact hlow x (Or.inr h)
        · omega
        · omega
        · omega
      have cL:=CL.out (hbW3.trans (hf.under Z3.out hlow3)) (fun y hy=>hf.low Z3.out hlow3 y (Or.inr hy)) hI
      have HH:Hid _:=And.intro hR' (And.intro hdis (And.intro hf (And.intro hD (And.intro hDl (And.intro nD1 nD2)))))
      clear hR' hI hdis hf hD hDl nD1 nD2 hlow3 CL CR hseq hr3 st0 run0 hbW3 kA kF hRlt hK hKlt hd hR hlow hW HSV HW3 kR kR' eg hu hS hz0 Z3
      gi_wp2_with (refine ⟨trivial,?_⟩;gi_at_call 95;refine (callsIn_wide.2 cL).mono ?_;rintro e w1 ⟨ev,N,rfl,HE,x2,y0,y1,z0,z1,HG⟩;rcases HE.out with rfl | ⟨t,x,rfl⟩)
      all_goals
        obtain ⟨OE,g1,g2,g3,g4⟩:=HG.out
        obtain ⟨hR',hdis,hf,hD,hDl,nD1,nD2⟩:=HH.out
        obtain ⟨d1,d2,d3,d4⟩:=FIN.out D OI' O' W4 OE _ _ N hR' hdis hf hD hDl nD1 nD2 g1 g2 g3 g4
        refine ⟨by simp,.inl ⟨_,_,rfl,run_takeDeferred d1,?_⟩⟩
        refine ⟨_,?_,d4⟩
        simp [results,Tryz.results75,go_sem,d2,d3]
    case stop =>
      rintro D pre OI' O' W4 hR' ⟨O1,t,x,u,of,N,mo,got,f1,f2,f3,f4,f5,f6,f7⟩ hdis hf hD hDl nD1 nD2
      obtain ⟨d1,d2,d3,d4⟩:=FIN.out D OI' O' W4 O1 W4 (.iface t x) N hR' hdis hf hD hDl nD1 nD2 ⟨rfl,rfl,rfl,Nat.le_refl _,fun _ _ _=>rfl,fun y hy=>Or.inl ((f7 y).2 (Or.inl hy))⟩ (Or.inr ⟨t,x,u,of,N,mo,got,rfl,f1,f2⟩) f3 f4
      clear hR' hdis hf hDl nD1 nD2 CL CR hseq hr3 st0 run0 hbW3 kA kF hRlt hK hKlt hd hR hlow hW HSV HW3 kR kR' eg hu hS hz0 Z3 FIN
      gi_wp2
      refine ⟨by simp,.inl ⟨_,_,rfl,run_takeDeferred d1,?_⟩⟩
      refine ⟨_,?_,d4⟩
      simp [results,Tryz.results75,go_sem,d2,d3]
end Go.Proofs.YtljcljipppjnoaaGreatDoor
namespace Go.Proofs.YtljcljipppjnoaaGreatDoor
open Go.RowKit Go.Shelf
theorem hof_any (f:Fn) (a b:Array Value) (W:World) :
    Calls Tryz.prog 76 #[.func f a b] W fun e w'=>e=.returned (.func (.func 96) #[] #[.pointer (some ⟨W.heap.size,0,none⟩)])∧w'=W.alloc (.cells #[.func f a b] 145):=by
  have hmf:∀ (fn:Fn) (first cap:Array Value) (w:World),(Instr.makeFunc fn first cap).run Tryz.prog w=.ok (.func fn first cap) w:=fun _ _ _ _=>rfl
  go_enter Tryz.func76,Tryz.ntmps76
  go_wp2
  go_ret
  exact ⟨rfl,rfl⟩
theorem evq_tells {q:Gh} (hq:q.Ok):TellsH (evq q):=by
  intro ev he
  have h1:=outText_small hq
  have hu:Utf (outText q.o).data.toList:=by
    cases q.o with
    | fine s=>show Utf (reg s);exact reg_utf s
    | long=>exact Utf.nil
    | idle=>exact Utf.nil
    | fail k=>exact Utf.nil
  have h2:=events_facts (outText q.o).data.toList ev he
  have h3:=events_utf _ hu ev he
  exact ⟨h2.1.2,h2.1.1,h3,by omega⟩
theorem page_flat (l:List Ev):(htmls l).flatten=pageS l:=by
  unfold htmls pageS
  rw [List.flatMap_def]
theorem pageq_len {q:Gh} (hq:q.Ok):(pageS (evq q)).length≤68719476736:=by
  have h1:=outText_small hq
  have h2:=evq_len hq
  have h3:=page_len (evq q) 2000 (fun e he=>by have:=(events_facts (outText q.o).data.toList e he).2;omega)
  have:(6 * 2000+32) * (evq q).length≤(6 * 2000+32) * 4804:=Nat.mul_le_mul_left _ h2
  omega
def WrOut (aL aI aS:Addr) (q:Gh) (s:Option Ou) (bs bk:Nat) (OS OK:Nat→Prop) (W:World) (e:Ending) (w':World):Prop :=
  ∃ OI' OK',(∀ x,OI' x→¬ OK' x)∧Fp (fun x=>OS x∨OK x) (fun x=>OI' x∨OK' x) W w'∧(∃ tx' cv' ov',SrcAt bs tx' cv' q.fa q.wt q.n ov' w')∧OI' bs∧(∀ x,OI' x→x < w'.heap.size)∧(∀ x,OK' x→x < w'.heap.size) ∧
    ((∃ t,q.o=.fine t)→AllEnd aS s bk (pageS (evq q)) OK' e w')∧((¬ ∃ t,q.o=.fine t)→(∃ t a,e=.returned (.tuple #[.int .i64 0,.iface t (.pointer (some a))])∧ErrAt aL aI q.o (.iface t (.pointer (some a))) OI' w')∧∀ u,s=some u→SkAt u bk 0 0 [] OK' w')
theorem pit_own1 (aL aI:Addr) (q:Gh) (bp bs bb:Nat) (r:List Ev):OwnS fun (_:Unit)=>PIt aL aI q bp bs bb r:=⟨fun _=>(PIt.own aL aI q bp bs bb).keep r,fun _=>(PIt.own aL aI q bp bs bb).lt r⟩
theorem pit_own2 (aL aI:Addr) (q:Gh) (bp bs bb:Nat):OwnS fun (_:Unit) OI W=>∃ r,PIt aL aI q bp bs bb r OI W:=by
  refine ⟨?_,?_⟩
  · rintro _ O W w' ⟨r,h⟩ hk hz
    exact ⟨r,(PIt.own aL aI q bp bs bb).keep r _ _ _ h hk hz⟩
  · rintro _ O W ⟨r,h⟩
    exact (PIt.own aL aI q bp bs bb).lt r _ _ h
theorem offers_parser {w0:World} {aL aI:Addr} {m:Int} {aS:Addr} (B:Base w0 aL aI m) (hS:w0.cell? ⟨0,0,none⟩=some (sinkV aS)) {q:Gh} (hq:q.Ok) (hfine:∃ t,q.o=.fine t) {s:Option Ou} (hu:∀ u,s=some u→u.Ok w0) {bp bs bk:Nat} {O OK:Nat→Prop} {W:World} (hW:Below w0.heap.size w0 W) (hlow:∀ x,O x∨OK x→w0.heap.size≤x) (hP:PaDone aL aI q bp bs (evq q) O W) (hK:∀ u,s=some u→SkAt u bk 0 0 [] OK W) (hKlt:∀ x,OK x→x < W.heap.size) (hd:∀ x,O x→¬ OK x) :
    Calls Tryz.prog 75 #[svOf s bk,.func (.func 96) #[] #[.pointer (some ⟨W.heap.size+1,0,none⟩)]] ((W.alloc (.cells #[.pointer (some ⟨bp,0,none⟩)] 86)).alloc (.cells #[.func (.func 93) #[] #[.pointer (some ⟨W.heap.size,0,none⟩)]] 145)) (WrOut aL aI aS q s bs bk O OK W):=by
  obtain ⟨W2,hW2⟩:∃ W2,(W.alloc (.cells #[.pointer (some ⟨bp,0,none⟩)] 86)).alloc (.cells #[.func (.func 93) #[] #[.pointer (some ⟨W.heap.size,0,none⟩)]] 145)=W2:=⟨_,rfl⟩
  have b2:Below W.heap.size W W2:=by rw [← hW2];exact ((Below.refl _ W).alloc (Nat.le_refl _) _).alloc (by simp) _
  have z2:W2.heap.size=W.heap.size+2:=by rw [← hW2];simp
  have n0:W2.heap[W.heap.size]?=some (.cells #[.pointer (some ⟨bp,0,none⟩)] 86 (0,0)):=by
    rw [← hW2,Below.heap_alloc _ _ _ (by simp)]
    exact heap_new _ _ rfl
  have n1:W2.heap[W.heap.size+1]?=some (.cells #[.func (.func 93) #[] #[.pointer (some ⟨W.heap.size,0,none⟩)]] 145 (0,0)):=by
    rw [← hW2]
    exact heap_new _ _ (by simp)
  rw [hW2]
  have hz:=hW.size
  have hPlt:∀ x,O x→x < W.heap.size:=PaAt.lt (st:=some (evq q)) hP
  have hseq:=html_seq (w0:=w0) (enters_of Tryz.func93 (by kernel_rfl) rfl) (evq_tells hq) (pit_own1 aL aI q bp bs W.heap.size (evq q)) (pit_own2 aL aI q bp bs W.heap.size) (all_seq B hq bp bs W.heap.size (evq q)) (W.heap.size+1)
  have hb2:Below w0.heap.size w0 W2:=hW.trans (b2.mono hz)
  have hr:With (fun (_:Unit)=>PIt aL aI q bp bs W.heap.size (evq q)) (W.heap.size+1) (.cells #[.func (.func 93) #[] #[.pointer (some ⟨W.heap.size,0,none⟩)]] 145 (0,0)) () (fun x=>(O x∨x=W.heap.size)∨x=W.heap.size+1) W2:=by
    refine ⟨_,⟨O,PaAt.keep (st:=some (evq q)) hP (fun x hx=>b2.block x (hPlt x hx)) b2.size,n0,fun h=>?_,fun x=>Iff.rfl⟩,n1,?_,fun x=>Iff.rfl⟩
    · have:=hPlt _ h;omega
    · rintro (h | h)
      · have:=hPlt _ h;omega
      · omega
  have hflat:(htmls (evq q)).flatten=pageS (evq q):=page_flat _
  refine (offers_all hS hu (enters_of Tryz.func96 (by kernel_rfl) rfl) (by rw [hflat];exact pageq_len hq) ⟨fun _=>(With.own (pit_own1 aL aI q bp bs W.heap.size (evq q)) _ _).keep (),fun _=>(With.own (pit_own1 aL aI q bp bs W.heap.size (evq q)) _ _).lt ()⟩ ⟨fun _=>(With.own (pit_own2 aL aI q bp bs W.heap.size) _ _).keep (),fun _=>(With.own (pit_own2 aL aI q bp bs W.heap.size) _ _).lt ()⟩ hseq (bk:=bk) (OK:=OK) hb2 ?_ hr (fun u hu'=>(hK u hu').keep (fun x hx=>b2.block x (hKlt x hx)) b2.size) (fun x hx=>by have:=hKlt x hx;omega) ?_).mono ?_
  · rintro x (((h | h) | h) | h)
    · exact hlow x (Or.inl h)
    · omega
    · omega
    · exact hlow x (Or.inr h)
  · rintro x ((h | h) | h) h1
    · exact hd x h h1
    · have:=hKlt x h1;omega
    · have:=hKlt x h1;omega
  · rintro e w' ⟨OI',OK',r1,r2,r3,r4⟩
    have hlt:=(With.own (pit_own2 aL aI q bp bs W.heap.size) (W.heap.size+1) (.cells #[.func (.func 93) #[] #[.pointer (some ⟨W.heap.size,0,none⟩)]] 145 (0,0))).lt () _ _ r1
    obtain ⟨O5,⟨r,O6,p1,p2,p3,p4⟩,q2,q3,q4⟩:=r1
    have hsrc:=(show PaDone aL aI q bp bs r O6 w' from p1).src
    have hos:=(show PaDone aL aI q bp bs r O6 w' from p1).os
    rw [hflat] at r4
    refine ⟨OI',OK',r2,⟨r3.os.trans b2.os,r3.tape.trans b2.tape,r3.output.trans b2.output,Nat.le_trans b2.size r3.size,fun x hx ho=>?_,fun x hx=>?_⟩,hsrc,(q4 bs).2 (Or.inl ((p4 bs).2 (Or.inl hos))),hlt,r4.lt,fun _=>r4,fun hn=>absurd hfine hn⟩
    · refine (r3.block x (by omega) ?_).trans (b2.block x hx)
      rintro (((h | h) | h) | h)
      · exact ho (Or.inl h)
      · omega
      · omega
      · exact ho (Or.inr h)
    · rcases r3.grow x hx with (((h | h) | h) | h) | h
      · exact Or.inl (Or.inl h)
      · exact Or.inr (by omega)
      · exact Or.inr (by omega)
      · exact Or.inl (Or.inr h)
      · exact Or.inr (by omega)
set_option maxRecDepth 100000 in
set_option maxHeartbeats 2000000 in
theorem write_any {w0:World} {aL aI:Addr} {m:Int} {aS:Addr} (B:Base w0 aL aI m) (hS:w0.cell? ⟨0,0,none⟩=some (sinkV aS)) {q:Gh} (hq:q.Ok) {s:Option Ou} (hu:∀ u,s=some u→u.Ok w0) {bs bk:Nat} {cv:Value} {OS OK:Nat→Prop} {W:World} (hW:Below w0.heap.size w0 W) (hlow:∀ x,OS x∨OK x→w0.heap.size≤x) (s1:SrcAt bs q.tx cv q.fa q.wt 0 false W) (s2:CutsOK bs cv q.cs W) (s3:∀ g o l c,cv=.slice (some ⟨g,o,none⟩) l c→OS g) (os:OS bs) (oslt:∀ x,OS x→x < W.heap.size) (hK:∀ u,s=some u→SkAt u bk 0 0 [] OK W) (hKlt:∀ x,OK x→x < W.heap.size) (hd:∀ x,OS x→¬ OK x) :
    Calls Tryz.prog 54 #[srcV q bs,svOf s bk] W (WrOut aL aI aS q s bs bk OS OK W):=by
  obtain ⟨W1,hW1⟩:∃ W1,W.alloc (.cells #[srcV q bs,.bool false,.nilIface,.slice none 0 0,.int .i64 0,.map none] 132)=W1:=⟨_,rfl⟩
  have hz:=hW.size
  have b1:Below W.heap.size W W1:=by rw [← hW1];exact (Below.refl _ W).alloc (Nat.le_refl _) _
  have z1:W1.heap.size=W.heap.size+1:=by rw [← hW1];simp
  have n0:W1.heap[W.heap.size]?=some (.cells #[srcV q bs,.bool false,.nilIface,.slice none 0 0,.int .i64 0,.map none] 132 (0,0)):=by rw [← hW1];exact heap_new _ _ rfl
  have hsv:srcV q bs=.nilIface∨∃ t a,srcV q bs=.iface t (.pointer (some a)):=by
    unfold srcV
    split
    · exact Or.inr ⟨_,_,rfl⟩
    · exact Or.inl rfl
  have hbs:=oslt bs os
  have fresh:PaAt aL aI q W.heap.size bs none (fun x=>OS x∨x=W.heap.size) W1:=by
    refine (show PaFresh q W.heap.size bs _ W1 from ⟨n0,⟨cv,(b1.block bs hbs).trans s1,?_,fun g o l c e=>⟨Or.inl (s3 g o l c e),?_⟩⟩,Or.inr rfl,Or.inl os,fun x hx=>?_⟩)
    · obtain ⟨g,o,cap,hcv,a1,a2,a3,a4,a5⟩:=s2
      exact ⟨g,o,cap,hcv,a1,a2,a3,by omega,fun i c hi=>(b1.cell (p:=⟨g,o+i,none⟩) (oslt g (s3 g o _ _ hcv))).trans (a5 i c hi)⟩
    · have:=oslt g (s3 g o l c e);omega
    · rcases hx with hx | hx
      · have:=oslt x hx;omega
      · omega
  have hbW1:Below w0.heap.size w0 W1:=hW.trans (b1.mono hz)
  have hlow1:∀ x,(OS x∨x=W.heap.size)→w0.heap.size≤x:=by
    rintro x (h | h)
    · exact hlow x (Or.inl h)
    · omega
  have cN:=new_any (srcV q bs) hsv W
  rw [hW1] at cN
  have cE:=perr_any B hq hbW1 hlow1 fresh
  have hdK:∀ x,(OS x∨x=W.heap.size)→¬ OK x:=by
    rintro x (h | h) h1
    · exact hd x h h1
    · have:=hKlt x h1;omega
  have hK1:∀ u,s=some u→SkAt u bk 0 0 [] OK W1:=fun u hu'=>(hK u hu').keep (fun x hx=>b1.block x (hKlt x hx)) b1.size
  have hsk:=svOf_ie s bk
  obtain ⟨v1,hv1⟩:∃ v1,srcV q bs=v1:=⟨_,rfl⟩
  obtain ⟨v2,hv2⟩:∃ v2,svOf s bk=v2:=⟨_,rfl⟩
  by_cases hfine:∃ t,q.o=.fine t
  · have cE2:Calls Tryz.prog 50 #[.pointer (some ⟨W.heap.size,0,none⟩)] W1 fun e w'=>e=.returned .nilIface∧Hid (∃ O',PaDone aL aI q W.heap.size bs (evq q) O' w'∧Fp (fun x=>OS x∨x=W.heap.size) O' W1 w'):=by
      refine cE.mono ?_
      rintro e w' ⟨O',v,rfl,e1,e2,e3⟩
      obtain ⟨t,ht⟩:=hfine
      rw [ht] at e1
      have e1:v=.nilIface:=e1
      exact ⟨by rw [e1],O',e2,e3⟩
    have cA:∀ w2,(∃ O',PaDone aL aI q W.heap.size bs (evq q) O' w2∧Fp (fun x=>OS x∨x=W.heap.size) O' W1 w2)→Calls Tryz.prog 75 #[v2,.func (.func 96) #[] #[.pointer (some ⟨w2.heap.size+1,0,none⟩)]] ((w2.alloc (.cells #[.pointer (some ⟨W.heap.size,0,none⟩)] 86)).alloc (.cells #[.func (.func 93) #[] #[.pointer (some ⟨w2.heap.size,0,none⟩)]] 145)) fun e w'=>∃ n t,e=.returned (.tuple #[.int .i64 n,t])∧Hid (WrOut aL aI aS q s bs bk OS OK W (.returned (.tuple #[.int .i64 n,t])) w'):=by
      rintro w2 ⟨O',hP,hf⟩
      have h1:=hf.size
      have hz1:w0.heap.size≤W1.heap.size:=hbW1.size
      rw [← hv2]
      refine (offers_parser B hS hq hfine hu (hbW1.trans (hf.under hz1 hlow1)) (O:=O') (OK:=OK) ?_ hP (fun u hu'=>(hK1 u hu').keep (hf.other hdK (fun x hx=>by have:=hKlt x hx;omega)) hf.size) (fun x hx=>by have:=hKlt x hx;omega) (hf.apart hdK (fun x hx=>by have:=hKlt x hx;omega))).mono ?_
      · rintro x (h | h)
        · exact hf.low hz1 hlow1 x h
        · exact hlow x (Or.inr h)
      · rintro e w' ⟨OI',OK',r1,r2,r3,r4,r5,r6,r7,r8⟩
        have hend:=r7 hfine
        have hform:∃ (n:Int) (t:Value),e=.returned (.tuple #[.int .i64 n,t]):=by
          rcases hend with ⟨_,_,_,_,_,h,_⟩ | ⟨_,_,_,_,_,_,_,h,_⟩
          · exact ⟨_,_,h⟩
          · exact ⟨_,_,h⟩
        obtain ⟨n,t,rfl⟩:=hform
        refine ⟨n,t,rfl,OI',OK',r1,⟨r2.os.trans (hf.os.trans b1.os),r2.tape.trans (hf.tape.trans b1.tape),r2.output.trans (hf.output.trans b1.output),by have:=r2.size;omega,fun x hx ho=>?_,fun x hx=>?_⟩,r3,r4,r5,r6,r7,r8⟩
        · have n1:¬ (OS x∨x=W.heap.size):=by
            rintro (h | h)
            · exact ho (Or.inl h)
            · omega
          have n2:¬ (O' x∨OK x):=by
            rintro (h | h)
            · rcases hf.grow x h with h | h
              · exact n1 h
              · omega
            · exact ho (Or.inr h)
          exact (r2.block x (by omega) n2).trans ((hf.block x (by omega) n1).trans (b1.block x hx))
        · rcases r2.grow x hx with (h | h) | h
          · rcases hf.grow x h with (h | h) | h
            · exact Or.inl (Or.inl h)
            · exact Or.inr (by omega)
            · exact Or.inr (by omega)
          · exact Or.inl (Or.inr h)
          · exact Or.inr (by omega)
    have cP:=fun (w:World)=>pall_any W.heap.size w
    have cH:=fun (w:World)=>hof_any (.func 93) #[] #[.pointer (some ⟨w.heap.size,0,none⟩)] (w.alloc (.cells #[.pointer (some ⟨W.heap.size,0,none⟩)] 86))
    have CA:Hid _:=cA
    rw [hv1] at cN hsv ⊢
    rw [hv2] at hsk ⊢
    clear cE cA fresh hbW1 hlow1 hdK hK1 hfine n0 b1 z1 hW1 s1 s2 s3 os oslt hK hKlt hd hlow hW B hS hq hu hbs hv1 hv2
    go_enter Tryz.func54,Tryz.ntmps54
    go_wp2_with (first
      | (go_at_call 46;refine cN.mono ?_;rintro e w1 ⟨rfl,hw⟩;rw [hw];clear hw)
      | (go_at_call 50;refine cE2.mono ?_;rintro e w2 ⟨rfl,HD⟩)
      | (go_at_call 71;refine (cP _).mono ?_;rintro e w3 ⟨rfl,hw⟩;rw [hw];clear hw)
      | (go_at_call 76;refine (cH _).mono ?_;rintro e w4 ⟨rfl,hw⟩;rw [hw];clear hw)
      | (go_at_call 75;refine (CA.out w2 HD.out).mono ?_;rintro e w5 ⟨n,t,rfl,HF⟩))
    go_ret2
    exact HF.out
  · have cE2:Calls Tryz.prog 50 #[.pointer (some ⟨W.heap.size,0,none⟩)] W1 fun e w'=>∃ t a,e=.returned (.iface t (.pointer (some a)))∧Hid (WrOut aL aI aS q s bs bk OS OK W (.returned (.tuple #[.int .i64 0,.iface t (.pointer (some a))])) w'):=by
      refine cE.mono ?_
      rintro e w' ⟨O',v,rfl,e1,e2,hf⟩
      have hform:∃ t a,v=.iface t (.pointer (some a)):=by
        rcases e1.forms with h | h
        · exfalso
          rw [h] at e1
          cases ho:q.o with
          | fine t=>exact hfine ⟨t,ho⟩
          | long=>rw [ho] at e1;cases e1
          | idle=>rw [ho] at e1;cases e1
          | fail k =>
            rw [ho] at e1
            obtain ⟨gE,gO,h1,_⟩:=e1
            cases h1
        · exact h
      obtain ⟨t,a,rfl⟩:=hform
      have h1:=hf.size
      have hPlt:∀ x,O' x→x < w'.heap.size:=PaAt.lt (st:=some (leftOf q none)) e2
      refine ⟨t,a,rfl,O',OK,hf.apart hdK (fun x hx=>by have:=hKlt x hx;omega),⟨hf.os.trans b1.os,hf.tape.trans b1.tape,hf.output.trans b1.output,by omega,fun x hx ho=>?_,fun x hx=>?_⟩,e2.src,e2.os,hPlt,fun x hx=>by have:=hKlt x hx;omega,fun hn=>absurd hn hfine,fun _=>⟨⟨t,a,rfl,e1⟩,fun u hu'=>(hK1 u hu').keep (hf.other hdK (fun x hx=>by have:=hKlt x hx;omega)) hf.size⟩⟩
      · refine (hf.block x (by omega) ?_).trans (b1.block x hx)
        rintro (h | h)
        · exact ho (Or.inl h)
        · omega
      · rcases hx with hx | hx
        · rcases hf.grow x hx with (h | h) | h
          · exact Or.inl (Or.inl h)
          · exact Or.inr (by omega)
          · exact Or.inr (by omega)
        · exact Or.inl (Or.inr hx)
    rw [hv1] at cN hsv ⊢
    rw [hv2] at hsk ⊢
    clear cE fresh hbW1 hlow1 hdK hK1 hfine n0 b1 z1 hW1 s1 s2 s3 os oslt hK hKlt hd hlow hW B hS hq hu hbs hv1 hv2
    go_enter Tryz.func54,Tryz.ntmps54
    go_wp2_with (first
      | (go_at_call 46;refine cN.mono ?_;rintro e w1 ⟨rfl,hw⟩;rw [hw];clear hw)
      | (go_at_call 50;refine cE2.mono ?_;rintro e w2 ⟨t,a,rfl,HF⟩))
    go_ret2
    exact HF.out
end Go.Proofs.YtljcljipppjnoaaGreatDoor
namespace Go.Proofs.YtljcljipppjnoaaGreatDoor
open Go.RowKit Go.Shelf
structure Wn where
  err:Int
  N:Int
  cnt:Int
  got:List UInt8
  of:Nat
  mo:Nat
  rd:Int
structure HtRel (q:Gh) (s:Option Ou) (r:Wn):Prop where
  mo:r.mo≤16
  rd:r.rd=q.n
  fine:(∃ t,q.o=.fine t)→(r.err=0∧r.N=0∧∃ (tk of:Nat) (got:List UInt8),Run (uOf s).one (uOf s).fa (uOf s).la (uOf s).li (pageS (evq q)) of tk got [] []∧r.cnt=tk∧(s.isSome=true→r.got=got∧r.of=of))∨(∃ (u:Ou) (wr:Bool) (N:Nat),s=some u∧Bad u.one u.fa u.la u.li (pageS (evq q)) wr r.of N r.got∧r.N=N∧r.cnt=N∧r.err=if wr then 5 else 3)
  bad:(¬ ∃ t,q.o=.fine t)→r.err=outErr q.o∧r.N=outN q.o∧r.cnt=0∧r.of=0∧r.got=[]
  none:s=none→r.of=0∧r.got=[]
theorem got_conv {got:List UInt8} {gv:Value} {w:World} (h:w.ownsRow 0 5 1 gv got.length (Lib.byteCells got)):(convert 107 9 gv).run Tryz.prog w=.ok (.string ⟨got.toArray⟩) w:=by
  rcases Joins.ownsRow_forms h with ⟨rfl,h0⟩ | ⟨g,cap,rfl⟩
  · have:=run_convert_bytes_zero (P:=Tryz.prog) w 107 5 Tryz.underlying107 Tryz.underlying5 none 0 9 Tryz.underlying9
    rw [this,List.eq_nil_of_length_eq_zero h0]
    rfl
  · refine run_convert_bytes_back w 107 9 5 ⟨g,0,none⟩ cap got Tryz.underlying107 Tryz.underlying5 Tryz.underlying9 (fun j hj=>?_)
    exact h.cells (g:=g) rfl j _ (by simp [Lib.byteCells,hj])
structure HtBehind (q:Gh) (s:Option Ou) (bs bk:Nat) (n:Int) (ev gv:Value) (r:Wn) (w':World):Prop where
  form:ev=.nilIface∨∃ t x,ev=.iface t x
  c5:w'.cell? ⟨bk,5,none⟩=some (.int .i64 r.of)
  c6:w'.cell? ⟨bk,6,none⟩=some (.int .i64 r.mo)
  c7:w'.cell? ⟨bk,7,none⟩=some (.bool false)
  c8:w'.cell? ⟨bk,8,none⟩=some gv
  own:w'.ownsRow 0 5 1 gv r.got.length (Lib.byteCells r.got)
  c4:w'.cell? ⟨bs,4,none⟩=some (.int .i64 r.rd)
  lt:bk < w'.heap.size∧bs < w'.heap.size
  cnt:r.cnt=n
  told:∀ w,Below w'.heap.size w' w→Calls Tryz.prog 49 #[ev] w fun e2 w2=>e2=.returned (.agg #[.int .i64 r.err,.int .i64 r.N])∧Below w.heap.size w w2
  rel:HtRel q s r
theorem write_told {w0:World} {aL aI:Addr} {m:Int} {aS:Addr} (B:Base w0 aL aI m) (hS:w0.cell? ⟨0,0,none⟩=some (sinkV aS)) {q:Gh} (hq:q.Ok) {u:Ou} (hu:u.Ok w0) (snk:Bool) {bs bk:Nat} {cv:Value} {OS:Nat→Prop} {W:World} (hW:Below w0.heap.size w0 W) (hlow:∀ x,OS x→w0.heap.size≤x) (hlk:w0.heap.size≤bk) (s1:SrcAt bs q.tx cv q.fa q.wt 0 false W) (s2:CutsOK bs cv q.cs W) (s3:∀ g o l c,cv=.slice (some ⟨g,o,none⟩) l c→OS g) (os:OS bs) (oslt:∀ x,OS x→x < W.heap.size) (nk:¬ OS bk)
    (hk:SnkAt bk u.tv 0 u.fa u.la u.li 0 0 false (.slice none 0 0) W) :
    Calls Tryz.prog 54 #[srcV q bs,svOf (if snk=true then some u else none) bk] W fun e w'=>∃ (n:Int) (ev gv:Value) (r:Wn),e=.returned (.tuple #[.int .i64 n,ev])∧HtBehind q (if snk=true then some u else none) bs bk n ev gv r w'∧Fp (fun x=>OS x∨x=bk) (fun _=>False) W w':=by
  have hz:=hW.size
  have hbk:=hk.lt
  have sk0:SkAt u bk 0 0 [] (fun x=>x=bk) W:=⟨⟨0,.slice none 0 0,hk,⟨rfl,Or.inl ⟨rfl,rfl⟩⟩,(fun x hx=>by cases hx),Nat.le_refl _⟩,rfl,fun x hx=>by omega⟩
  obtain ⟨OK,hOK⟩:∃ OK:Nat→Prop,OK=fun x=>snk=true∧x=bk:=⟨_,rfl⟩
  have okb:∀ x,OK x→x=bk:=fun x hx=>by rw [hOK] at hx;exact hx.2
  have hsk:∀ u',(if snk=true then some u else none)=some u'→u'=u∧SkAt u bk 0 0 [] OK W∧snk=true:=by
    intro u' h
    cases snk with
    | true =>
      simp at h
      obtain ⟨a,gv,h1,h2,h3,h4⟩:=sk0.box
      have hob:OK bk:=by rw [hOK];exact ⟨rfl,rfl⟩
      exact ⟨h.symm,⟨⟨a,gv,h1,h2,fun x hx=>⟨(h3 x hx).1 ▸ hob,(h3 x hx).2⟩,h4⟩,hob,fun x hx=>by have:=okb x hx;omega⟩,rfl⟩
    | false=>simp at h
  have hT:=B.to hW
  refine (write_any B hS hq (s:=if snk=true then some u else none) (fun u' h=>(hsk u' h).1 ▸ hu) (OK:=OK) hW (fun x hx=>hx.elim (hlow x) (fun h=>by have:=okb x h;omega)) s1 s2 s3 os oslt (fun u' h=>(hsk u' h).1 ▸ (hsk u' h).2.1) (fun x hx=>by have:=okb x hx;omega) (fun x h1 h2=>nk (okb x h2 ▸ h1))).mono ?_
  rintro e w' ⟨OI',OK',d1,hf,⟨tx',cv',ov',hsrc⟩,o1,o2,o3,hfin,hbad⟩
  have fp:Fp (fun x=>OS x∨x=bk) (fun _=>False) W w':=⟨hf.os,hf.tape,hf.output,hf.size,fun x hx ho=>hf.block x hx fun h=>ho (h.imp id (okb x)),fun x hx=>hx.elim⟩
  have bW:Below w0.heap.size w0 w':=hW.trans (fp.under hz (fun x hx=>hx.elim (hlow x) (fun h=>by omega)))
  have G':=(B.to bW).glob
  have hS':w'.cell? ⟨0,0,none⟩=some (sinkV aS):=(bW.cell (p:=⟨0,0,none⟩) (lt_cell hS)).trans hS
  have c4:=hsrc.cells.2.2.2.2.1
  have lts:=lt_cell c4
  have hzf:=hf.size
  -- the sink's own box,where nobody asked it
  have quiet:snk=false→SnkAt bk u.tv 0 u.fa u.la u.li 0 0 false (.slice none 0 0) w':=fun h=>(hf.block bk hbk (by
    rintro (h1 | h1)
    · exact nk h1
    · rw [hOK,h] at h1;cases h1.1)).trans hk
  have nil0:w'.ownsRow 0 5 1 (.slice none 0 0) ([]:List UInt8).length (Lib.byteCells []):=⟨rfl,Or.inl ⟨rfl,rfl⟩⟩
  -- what the sink's box tells
  have box:∀ (of mo:Nat) (got:List UInt8) (O:Nat→Prop),SkAt u bk of mo got O w'→∃ gv,w'.cell? ⟨bk,5,none⟩=some (.int .i64 of)∧w'.cell? ⟨bk,6,none⟩=some (.int .i64 mo)∧w'.cell? ⟨bk,7,none⟩=some (.bool false)∧w'.cell? ⟨bk,8,none⟩=some gv∧w'.ownsRow 0 5 1 gv got.length (Lib.byteCells got):=by
    intro of mo got O h
    obtain ⟨a,gv,h1,h2,_⟩:=h.box
    obtain ⟨_,_,_,_,_,k5,k6,k7,k8⟩:=h1.cells
    exact ⟨gv,k5,k6,k7,k8,h2⟩
  by_cases hfine:∃ t,q.o=.fine t
  · rcases hfin hfine with ⟨bo,of,tk,mo,got,rfl,hr⟩ | ⟨t,x,u',of,N,mo,got,rfl,hsu,hF⟩
    · have tell:∀ w,Below w'.heap.size w' w→Calls Tryz.prog 49 #[.nilIface] w fun e2 w2=>e2=.returned (.agg #[.int .i64 0,.int .i64 0])∧Below w.heap.size w w2:=fun w _=>of_nil w
      cases snk with
      | true =>
        obtain ⟨O1,k1,_⟩:=hr.snk u rfl
        obtain ⟨gv,k5,k6,k7,k8,k9⟩:=box of mo got O1 k1
        exact ⟨tk,.nilIface,gv,⟨0,0,tk,got,of,mo,q.n⟩,rfl,⟨Or.inl rfl,k5,k6,k7,k8,k9,c4,⟨by omega,lts⟩,rfl,tell,⟨hr.mo,rfl,fun _=>Or.inl ⟨rfl,rfl,tk,of,got,hr.run,rfl,fun _=>⟨rfl,rfl⟩⟩,fun hn=>absurd hfine hn,(fun hn=>by cases hn)⟩⟩,fp⟩
      | false =>
        have hq0:=quiet rfl
        obtain ⟨_,_,_,_,_,k5,k6,k7,k8⟩:=hq0.cells
        exact ⟨tk,.nilIface,.slice none 0 0,⟨0,0,tk,[],0,0,q.n⟩,rfl,⟨Or.inl rfl,k5,k6,k7,k8,nil0,c4,⟨by omega,lts⟩,rfl,tell,⟨Nat.zero_le _,rfl,fun _=>Or.inl ⟨rfl,rfl,tk,of,got,hr.run,rfl,(fun hn=>by cases hn)⟩,fun hn=>absurd hfine hn,fun _=>⟨rfl,rfl⟩⟩⟩,fp⟩
    · obtain ⟨hu',_,hsn⟩:=hsk u' hsu
      subst hu'
      subst hsn
      obtain ⟨O1,k1,_⟩:=hF.snk
      obtain ⟨gv,k5,k6,k7,k8,k9⟩:=box of mo got O1 k1
      obtain ⟨gE,er,wr,e1,e2,e3,e4,e5⟩:=hF.err
      have x0:=row_cell (i:=0) e2 rfl
      have x1:=row_cell (i:=1) e2 rfl
      have hgE:=(Array.getElem?_eq_some_iff.1 e2).1
      refine ⟨N,.iface t x,gv,⟨if wr then 5 else 3,N,N,got,of,mo,q.n⟩,rfl,⟨Or.inr ⟨t,x,rfl⟩,k5,k6,k7,k8,k9,c4,⟨by omega,lts⟩,rfl,fun w hw=>?_,⟨hF.mo,rfl,fun _=>Or.inr ⟨u',wr,N,rfl,e4,rfl,rfl,rfl⟩,fun hn=>absurd hfine hn,(fun hn=>by cases hn)⟩⟩,fp⟩
      rw [e1]
      have y0:w.cell? ⟨gE,0,none⟩=some (.int .i64 N):=(hw.cell (p:=⟨gE,0,none⟩) hgE).trans x0
      have y1:w.cell? ⟨gE,1,none⟩=some er:=(hw.cell (p:=⟨gE,1,none⟩) hgE).trans x1
      have hg:w.cell? ⟨3,0,none⟩=some (.iface 200 (.agg #[.pointer (some ⟨12,98,none⟩)])):=(hw.cell (p:=⟨3,0,none⟩) (lt_cell G'.type)).trans G'.type
      have hSw:w.cell? ⟨0,0,none⟩=some (sinkV aS):=(hw.cell (p:=⟨0,0,none⟩) (lt_cell hS')).trans hS'
      rcases e5 with ⟨rfl,p,rfl⟩ | ⟨rfl,rfl⟩
      · exact of_write gE N p w hg y0 y1
      · exact of_sink gE N aS w hg hSw y0 y1
  · obtain ⟨⟨t,a,rfl,he⟩,hsk0⟩:=hbad hfine
    have tell:∀ w,Below w'.heap.size w' w→Calls Tryz.prog 49 #[.iface t (.pointer (some a))] w fun e2 w2=>e2=.returned (.agg #[.int .i64 (outErr q.o),.int .i64 (outN q.o)])∧Below w.heap.size w w2:=fun w hw=>(he.keep (fun x hx=>hw.block x (o2 x hx))).told (G'.below hw)
    cases snk with
    | true =>
      obtain ⟨gv,k5,k6,k7,k8,k9⟩:=box 0 0 [] OK' (hsk0 u rfl)
      exact ⟨0,_,gv,⟨outErr q.o,outN q.o,0,[],0,0,q.n⟩,rfl,⟨Or.inr ⟨_,_,rfl⟩,k5,k6,k7,k8,k9,c4,⟨by omega,lts⟩,rfl,tell,⟨Nat.zero_le _,rfl,fun hn=>absurd hn hfine,fun _=>⟨rfl,rfl,rfl,rfl,rfl⟩,(fun hn=>by cases hn)⟩⟩,fp⟩
    | false =>
      have hq0:=quiet rfl
      obtain ⟨_,_,_,_,_,k5,k6,k7,k8⟩:=hq0.cells
      exact ⟨0,_,.slice none 0 0,⟨outErr q.o,outN q.o,0,[],0,0,q.n⟩,rfl,⟨Or.inr ⟨_,_,rfl⟩,k5,k6,k7,k8,nil0,c4,⟨by omega,lts⟩,rfl,tell,⟨Nat.zero_le _,rfl,fun hn=>absurd hn hfine,fun _=>⟨rfl,rfl,rfl,rfl,rfl⟩,fun _=>⟨rfl,rfl⟩⟩⟩,fp⟩
end Go.Proofs.YtljcljipppjnoaaGreatDoor
namespace Go.Proofs.YtljcljipppjnoaaGreatDoor
open Go.RowKit Go.Shelf
def wnV (r:Wn):Value:=.agg #[.int .i64 r.err,.int .i64 r.N,.int .i64 r.cnt,.string ⟨r.got.toArray⟩,.int .i64 r.of,.int .i64 r.mo,.bool false,.int .i64 r.rd]
def HtOut (q:Gh) (s:Option Ou) (W:World) (e:Ending) (w':World):Prop:=∃ r:Wn,e=.returned (wnV r)∧HtRel q s r∧Below W.heap.size W w'
abbrev wrZero:Obj:=.cells #[.int .i64 0,.int .i64 0,.int .i64 0,.string ⟨#[]⟩,.int .i64 0,.int .i64 0,.bool false,.int .i64 0] 61 (0,0)
def htBegun (i o:Array Value) (W:World):World:=((W.alloc (.cells i 33)).alloc (.cells o 58)).alloc (.cells #[.int .i64 0,.int .i64 0,.int .i64 0,.string ⟨#[]⟩,.int .i64 0,.int .i64 0,.bool false,.int .i64 0] 61)
theorem htBegun_facts (i o:Array Value) (W:World):(htBegun i o W).heap.size=W.heap.size+3∧Below W.heap.size W (htBegun i o W)∧(htBegun i o W).heap[W.heap.size]?=some (.cells i 33 (0,0))∧(htBegun i o W).heap[W.heap.size+1]?=some (.cells o 58 (0,0))∧(htBegun i o W).heap[W.heap.size+1+1]?=some wrZero:=by
  unfold htBegun
  refine ⟨by simp,(((Below.refl _ W).alloc (Nat.le_refl _) _).alloc (by simp) _).alloc (by simp;omega) _,?_,?_,heap_new _ _ (by simp)⟩
  · rw [Below.heap_alloc _ _ _ (by simp;omega),Below.heap_alloc _ _ _ (by simp)]
    exact heap_new _ _ rfl
  · rw [Below.heap_alloc _ _ _ (by simp)]
    exact heap_new _ _ (by simp)
def HtS (bk bs:Nat) (gv:Value) (r:Wn) (w':World):Prop:=w'.cell? ⟨bk,8,none⟩=some gv∧w'.cell? ⟨bk,5,none⟩=some (.int .i64 r.of)∧w'.cell? ⟨bk,6,none⟩=some (.int .i64 r.mo)∧w'.cell? ⟨bk,7,none⟩=some (.bool false)∧w'.cell? ⟨bs,4,none⟩=some (.int .i64 r.rd)∧(convert 107 9 gv).run Tryz.prog w'=.ok (.string ⟨r.got.toArray⟩) w'
theorem ht_tail {q:Gh} {s:Option Ou} {bs bk rb:Nat} {n:Int} {ev gv:Value} {r:Wn} {w2:World} (h:HtBehind q s bs bk n ev gv r w2) (hr:w2.heap[rb]?=some wrZero) (hne:bk ≠ rb∧bs ≠ rb) :
    (∀ w',(∀ x,x < w2.heap.size→x ≠ rb→w'.heap[x]?=w2.heap[x]?)→HtS bk bs gv r w') ∧
    Calls Tryz.prog 49 #[ev] w2.drew fun e w'=>e=.returned (.agg #[.int .i64 r.err,.int .i64 r.N])∧HtS bk bs gv r w'∧w'.heap[rb]?=some wrZero∧Hid (∀ x,x < w2.heap.size→w'.heap[x]?=w2.heap[x]?)∧Hid (Below w2.heap.size w2 w'):=by
  have key:∀ w',(∀ x,x < w2.heap.size→x ≠ rb→w'.heap[x]?=w2.heap[x]?)→HtS bk bs gv r w':=by
    intro w' hk
    have kb:=hk bk h.lt.1 hne.1
    have ks:=hk bs h.lt.2 hne.2
    refine ⟨(World.cell?_of_block kb).trans h.c8,(World.cell?_of_block kb).trans h.c5,(World.cell?_of_block kb).trans h.c6,(World.cell?_of_block kb).trans h.c7,(World.cell?_of_block ks).trans h.c4,got_conv ⟨h.own.1,?_⟩⟩
    rcases h.own.2 with h0 | ⟨g,cap,cur,hv,hg,hh,rr⟩
    · exact Or.inl h0
    · refine Or.inr ⟨g,cap,cur,hv,hg,(hk g (Array.getElem?_eq_some_iff.1 hh).1 (fun e=>?_)).trans hh,rr⟩
      rw [e,hr] at hh
      injection hh with hh
      injection hh with _ hh _
      exact absurd hh (by decide)
  refine ⟨key,(h.told w2.drew ((Below.refl _ w2).drew)).mono ?_⟩
  rintro e w' ⟨rfl,b⟩
  have hb:∀ x,x < w2.heap.size→w'.heap[x]?=w2.heap[x]?:=fun x hx=>b.block x hx
  exact ⟨rfl,key w' (fun x hx _=>hb x hx),(hb rb (Array.getElem?_eq_some_iff.1 hr).1).trans hr,hb,⟨b.os,b.tape,b.output,b.size,b.block⟩⟩
theorem wr_put {rb:Nat} {w:World} (h:w.heap[rb]?=some wrZero) (a b c d e f g i:Value) :
    ((((((((w.setCell ⟨rb,0,none⟩ a).setCell ⟨rb,1,none⟩ b).setCell ⟨rb,2,none⟩ c).setCell ⟨rb,3,none⟩ d).setCell ⟨rb,4,none⟩ e).setCell ⟨rb,5,none⟩ f).setCell ⟨rb,6,none⟩ g).setCell ⟨rb,7,none⟩ i).heap[rb]?=some (.cells #[a,b,c,d,e,f,g,i] 61 (0,0)):=by
  have h0:=Joins.block_setCell (i:=0) h a
  have h1:=Joins.block_setCell (i:=1) h0 b
  have h2:=Joins.block_setCell (i:=2) h1 c
  have h3:=Joins.block_setCell (i:=3) h2 d
  have h4:=Joins.block_setCell (i:=4) h3 e
  have h5:=Joins.block_setCell (i:=5) h4 f
  have h6:=Joins.block_setCell (i:=6) h5 g
  have h7:=Joins.block_setCell (i:=7) h6 i
  simpa using h7
set_option maxRecDepth 100000 in
set_option maxHeartbeats 4000000 in
theorem html_any {w0:World} {aL aI:Addr} {m:Int} {aS:Addr} (B:Base w0 aL aI m) (hS:w0.cell? ⟨0,0,none⟩=some (sinkV aS)) {q:Gh} (hq:q.Ok) {u:Ou} (hu:u.Ok w0) (snk:Bool) (cv0:Value) (W:World) (hW:Below w0.heap.size w0 W) (hN:NumsAt cv0 q.cs W) (md:Int) (hmd:(md=0∧q.src=true∧snk=true)∨(md=1∧q.src=false∧snk=true)∨(md=2∧q.src=true∧snk=false)) :
    Calls Tryz.prog 26 #[.agg #[.string q.tx,cv0,.int .i64 q.fa,.bool q.wt],.agg #[u.tv,.int .i64 u.fa,.int .i64 u.la,.int .i64 u.li],.int .i64 md] W (HtOut q (if snk=true then some u else none) W):=by
  obtain ⟨ca,n0,cp,hcv⟩:∃ ca n0 cp,cv0=.slice ca n0 cp:=by
    rcases hN with ⟨_,ca,cap,rfl⟩ | ⟨g,o,cap,rfl,_⟩
    · exact ⟨_,_,_,rfl⟩
    · exact ⟨_,_,_,rfl⟩
  subst hcv
  obtain ⟨ta,tl,tc,htv⟩:∃ ta tl tc,u.tv=.slice ta tl tc:=by
    rcases hu.takes with ⟨_,ta,tc,h⟩ | ⟨_,tg,tp,tc,h,_⟩
    · exact ⟨_,_,_,h⟩
    · exact ⟨_,_,_,h⟩
  obtain ⟨z3,b3,i0,i1,i2⟩:=htBegun_facts #[.string q.tx,.slice ca n0 cp,.int .i64 q.fa,.bool q.wt] #[.slice ta tl tc,.int .i64 u.fa,.int .i64 u.la,.int .i64 u.li] W
  obtain ⟨W3,hW3⟩:∃ W3,htBegun #[.string q.tx,.slice ca n0 cp,.int .i64 q.fa,.bool q.wt] #[.slice ta tl tc,.int .i64 u.fa,.int .i64 u.la,.int .i64 u.li] W=W3:=⟨_,rfl⟩
  rw [hW3] at z3 b3 i0 i1 i2
  have hz:=hW.size
  have hN3:NumsAt (.slice ca n0 cp) q.cs W3:=by
    rcases hN with h | ⟨g,o,cap,h1,h2,h3⟩
    · exact Or.inl h
    · refine Or.inr ⟨g,o,cap,h1,by omega,fun j c hj=>?_⟩
      rw [← h3 j c hj]
      exact World.cell?_of_block (b3.block g h2)
  have cS:=source_new q.tx (.slice ca n0 cp) q.cs q.fa q.wt W3 hN3 hq.cuts
  have hW3':Below w0.heap.size w0 W3:=hW.trans (b3.mono hz)
  -- behind the source: the sink is laid;Write
  have cW:∀ (w1:World) (bs:Nat) (cv:Value),W3.heap.size≤bs→SrcAt bs q.tx cv q.fa q.wt 0 false w1→CutsOK bs cv q.cs w1→(∀ g o l c,cv=.slice (some ⟨g,o,none⟩) l c→W3.heap.size≤g∧g ≠ bs∧g < w1.heap.size)→Below W3.heap.size W3 w1 →
      Calls Tryz.prog 54 #[srcV q bs,svOf (if snk=true then some u else none) w1.heap.size] (w1.alloc (.cells #[.slice ta tl tc,.int .i64 0,.int .i64 u.fa,.int .i64 u.la,.int .i64 u.li,.int .i64 0,.int .i64 0,.bool false,.slice none 0 0] 109)) fun e w'=>∃ (n:Int) (ev gv:Value) (r:Wn),e=.returned (.tuple #[.int .i64 n,ev])∧Hid (HtBehind q (if snk=true then some u else none) bs w1.heap.size n ev gv r w')∧Hid (Below W3.heap.size W3 w'∧w1.heap.size+1≤w'.heap.size):=by
    intro w1 bs cv hbs d1 d2 d3 d4
    have hbl:=d1.lt
    have z1:=d4.size
    obtain ⟨w2,hw2⟩:∃ w2,w1.alloc (.cells #[.slice ta tl tc,.int .i64 0,.int .i64 u.fa,.int .i64 u.la,.int .i64 u.li,.int .i64 0,.int .i64 0,.bool false,.slice none 0 0] 109)=w2:=⟨_,rfl⟩
    have b2:Below w1.heap.size w1 w2:=by rw [← hw2];exact (Below.refl _ w1).alloc (Nat.le_refl _) _
    have z2:w2.heap.size=w1.heap.size+1:=by rw [← hw2];simp
    have hk:SnkAt w1.heap.size u.tv 0 u.fa u.la u.li 0 0 false (.slice none 0 0) w2:=by
      rw [← hw2,htv]
      exact heap_new _ _ rfl
    obtain ⟨g,o,cap,hcv,a1,a2,a3,a4,a5⟩:=d2
    have hg:=d3 g o _ _ hcv
    rw [hw2]
    refine (write_told B hS hq hu snk (OS:=fun x=>x=bs∨x=g) (hW3'.trans ((d4.trans (b2.mono z1)).mono hW3'.size)) ?_ (by have:=hW3'.size;omega) ((b2.block bs hbl).trans d1) ⟨g,o,cap,hcv,a1,a2,a3,by omega,fun i c hi=>(b2.cell (p:=⟨g,o+i,none⟩) a4).trans (a5 i c hi)⟩ ?_ (Or.inl rfl) ?_ ?_ hk).mono ?_
    · have:=hW3'.size
      rintro x (h | h) <;> omega
    · intro g' o' l' c' he
      rw [hcv] at he
      injection he with he _ _
      injection he with he
      injection he with he _
      exact Or.inr he.symm
    · rintro x (h | h) <;> omega
    · rintro (h | h) <;> omega
    · rintro e w' ⟨n,ev,gv,r,h1,h2,h3⟩
      refine ⟨n,ev,gv,r,h1,h2,?_,by have:=h3.size;omega⟩
      refine (d4.trans (b2.mono z1)).trans (h3.under (by omega) ?_)
      rintro x ((h | h) | h) <;> omega
  have CW:Hid _:=cW
  have HB3:Hid (Below W.heap.size W W3∧W3.heap.size=W.heap.size+3∧W3.heap[W.heap.size+1+1]?=some wrZero):=⟨b3,z3,i2⟩
  have j0:=row_cell (i:=0) i0 rfl
  have j1:=row_cell (i:=1) i0 rfl
  have j2:=row_cell (i:=2) i0 rfl
  have j3:=row_cell (i:=3) i0 rfl
  have k0:=row_cell (i:=0) i1 rfl
  have k1:=row_cell (i:=1) i1 rfl
  have k2:=row_cell (i:=2) i1 rfl
  have k3:=row_cell (i:=3) i1 rfl
  -- the last region: what it reads
  have HW3:Hid (htBegun #[.string q.tx,.slice ca n0 cp,.int .i64 q.fa,.bool q.wt] #[.slice ta tl tc,.int .i64 u.fa,.int .i64 u.la,.int .i64 u.li] W=W3):=hW3
  unfold htBegun at hW3
  rw [htv]
  clear cW hN hN3 hW3' i0 i1 i2 b3 z3 hW B hS hq hu htv HW3
  rcases hmd with ⟨rfl,hs,rfl⟩ | ⟨rfl,hs,rfl⟩ | ⟨rfl,hs,rfl⟩
  · simp only [srcV,hs,svOf,if_true,Option.isSome_some] at CW
    go_enter Tryz.func26,Tryz.ntmps26
    go_wp2_with (first
      | (go_at_call 45;refine cS.mono ?_;rintro e w1 ⟨bs,cv,rfl,d1,d2,d3,d4,d5⟩;have l0:=(d5.cell (p:=⟨W.heap.size+1,0,none⟩) (by show W.heap.size+1 < _;have:=HB3.out.2.1;omega)).trans k0;have l1:=(d5.cell (p:=⟨W.heap.size+1,1,none⟩) (by show W.heap.size+1 < _;have:=HB3.out.2.1;omega)).trans k1;have l2:=(d5.cell (p:=⟨W.heap.size+1,2,none⟩) (by show W.heap.size+1 < _;have:=HB3.out.2.1;omega)).trans k2;have l3:=(d5.cell (p:=⟨W.heap.size+1,3,none⟩) (by show W.heap.size+1 < _;have:=HB3.out.2.1;omega)).trans k3)
      | (go_at_call 54;refine (CW.out w1 bs cv d1 d2 d3 d4 d5).mono ?_;rintro e w2 ⟨n,ev,gv,r,rfl,HF,HG⟩;rcases HF.out.form with hev | ⟨t,x,hev⟩ <;> subst hev))
    all_goals
      have hr2:w2.heap[W.heap.size+1+1]?=some wrZero:=(HG.out.1.block _ (by have:=HB3.out.2.1;omega)).trans HB3.out.2.2
      have z2:=HG.out.2
      have z5:=d5.size
      obtain ⟨kp,cT⟩:=ht_tail HF.out hr2 (by have:=HB3.out.2.1;omega)
      have KP:Hid _:=kp
      have HD:Hid (Below W3.heap.size W3 w1):=d5
      clear kp d1 d2 d3 d4 d5 hr2 CW cS l0 l1 l2 l3 j0 j1 j2 j3 k0 k1 k2 k3 hW3
      have S0:=KP.out w2.drew (fun _ _ _=>rfl)
      unfold HtS at cT S0
      go_region_held3 (fun w'=>w'.cell? ⟨w1.heap.size,8,none⟩=some gv∧w'.cell? ⟨w1.heap.size,5,none⟩=some (.int .i64 r.of)∧w'.cell? ⟨w1.heap.size,6,none⟩=some (.int .i64 r.mo)∧w'.cell? ⟨w1.heap.size,7,none⟩=some (.bool false)∧w'.cell? ⟨bs,4,none⟩=some (.int .i64 r.rd)∧(convert 107 9 gv).run Tryz.prog w'=.ok (.string ⟨r.got.toArray⟩) w') (first | with_reducible exact S0 | with_reducible exact SA | exact KP.out _ (fun x hx hn=>by rw [Below.heap_setCell _ _ _ _ hn,Below.heap_setCell _ _ _ _ hn,Below.heap_setCell _ _ _ _ hn,Below.heap_setCell _ _ _ _ hn,Below.heap_setCell _ _ _ _ hn,Below.heap_setCell _ _ _ _ hn,Below.heap_setCell _ _ _ _ hn,Below.heap_setCell _ _ _ _ hn];exact HX.out x hx)) ((go_at_call 49;refine cT.mono ?_;rintro e w3 ⟨rfl,SA,hres,HX,HBB⟩;have y0:=row_cell (i:=0) hres rfl;have y1:=row_cell (i:=1) hres rfl;have y2:=row_cell (i:=2) hres rfl;have y3:=row_cell (i:=3) hres rfl;have y4:=row_cell (i:=4) hres rfl;have y5:=row_cell (i:=5) hres rfl;have y6:=row_cell (i:=6) hres rfl;have y7:=row_cell (i:=7) hres rfl;have g0:=row_free (i:=0) hres;have g1:=row_free (i:=1) hres;have g2:=row_free (i:=2) hres;have g3:=row_free (i:=3) hres;have g4:=row_free (i:=4) hres;have g5:=row_free (i:=5) hres;have g6:=row_free (i:=6) hres;have g7:=row_free (i:=7) hres))
      go_wp2
      have hp:=wr_put hres (.int .i64 r.err) (.int .i64 r.N) (.int .i64 n) (.string ⟨r.got.toArray⟩) (.int .i64 r.of) (.int .i64 r.mo) (.bool false) (.int .i64 r.rd)
      have e0:=row_cell (i:=0) hp rfl
      have e1:=row_cell (i:=1) hp rfl
      have e2:=row_cell (i:=2) hp rfl
      have e3:=row_cell (i:=3) hp rfl
      have e4:=row_cell (i:=4) hp rfl
      have e5:=row_cell (i:=5) hp rfl
      have e6:=row_cell (i:=6) hp rfl
      have e7:=row_cell (i:=7) hp rfl
      refine bodyPost_ret (v:=wnV r) ?_ rfl ⟨r,rfl,HF.out.rel,?_⟩
      · unfold wnV
        rw [HF.out.cnt]
        simp [results,Tryz.results26,go_sem,e0,e1,e2,e3,e4,e5,e6,e7]
      · have hz3:=HB3.out.2.1
        have hW2:Below W.heap.size W w3:=(HB3.out.1.trans (HG.out.1.mono (by omega))).trans (HBB.out.mono (by omega))
        exact (((((((hW2.setCell (p:=⟨W.heap.size+1+1,0,none⟩) (by show _≤W.heap.size+1+1;omega) _).setCell (p:=⟨W.heap.size+1+1,1,none⟩) (by show _≤W.heap.size+1+1;omega) _).setCell (p:=⟨W.heap.size+1+1,2,none⟩) (by show _≤W.heap.size+1+1;omega) _).setCell (p:=⟨W.heap.size+1+1,3,none⟩) (by show _≤W.heap.size+1+1;omega) _).setCell (p:=⟨W.heap.size+1+1,4,none⟩) (by show _≤W.heap.size+1+1;omega) _).setCell (p:=⟨W.heap.size+1+1,5,none⟩) (by show _≤W.heap.size+1+1;omega) _).setCell (p:=⟨W.heap.size+1+1,6,none⟩) (by show _≤W.heap.size+1+1;omega) _).setCell (p:=⟨W.heap.size+1+1,7,none⟩) (by show _≤W.heap.size+1+1;omega) _
  · simp only [srcV,hs,svOf,if_true,Option.isSome_some,Bool.false_eq_true,if_false] at CW
    go_enter Tryz.func26,Tryz.ntmps26
    go_wp2_with (first
      | (go_at_call 45;refine cS.mono ?_;rintro e w1 ⟨bs,cv,rfl,d1,d2,d3,d4,d5⟩;have l0:=(d5.cell (p:=⟨W.heap.size+1,0,none⟩) (by show W.heap.size+1 < _;have:=HB3.out.2.1;omega)).trans k0;have l1:=(d5.cell (p:=⟨W.heap.size+1,1,none⟩) (by show W.heap.size+1 < _;have:=HB3.out.2.1;omega)).trans k1;have l2:=(d5.cell (p:=⟨W.heap.size+1,2,none⟩) (by show W.heap.size+1 < _;have:=HB3.out.2.1;omega)).trans k2;have l3:=(d5.cell (p:=⟨W.heap.size+1,3,none⟩) (by show W.heap.size+1 < _;have:=HB3.out.2.1;omega)).trans k3)
      | (go_at_call 54;refine (CW.out w1 bs cv d1 d2 d3 d4 d5).mono ?_;rintro e w2 ⟨n,ev,gv,r,rfl,HF,HG⟩;rcases HF.out.form with hev | ⟨t,x,hev⟩ <;> subst hev))
    all_goals
      have hr2:w2.heap[W.heap.size+1+1]?=some wrZero:=(HG.out.1.block _ (by have:=HB3.out.2.1;omega)).trans HB3.out.2.2
      have z2:=HG.out.2
      have z5:=d5.size
      obtain ⟨kp,cT⟩:=ht_tail HF.out hr2 (by have:=HB3.out.2.1;omega)
      have KP:Hid _:=kp
      have HD:Hid (Below W3.heap.size W3 w1):=d5
      clear kp d1 d2 d3 d4 d5 hr2 CW cS l0 l1 l2 l3 j0 j1 j2 j3 k0 k1 k2 k3 hW3
      have S0:=KP.out w2.drew (fun _ _ _=>rfl)
      unfold HtS at cT S0
      go_region_held3 (fun w'=>w'.cell? ⟨w1.heap.size,8,none⟩=some gv∧w'.cell? ⟨w1.heap.size,5,none⟩=some (.int .i64 r.of)∧w'.cell? ⟨w1.heap.size,6,none⟩=some (.int .i64 r.mo)∧w'.cell? ⟨w1.heap.size,7,none⟩=some (.bool false)∧w'.cell? ⟨bs,4,none⟩=some (.int .i64 r.rd)∧(convert 107 9 gv).run Tryz.prog w'=.ok (.string ⟨r.got.toArray⟩) w') (first | with_reducible exact S0 | with_reducible exact SA | exact KP.out _ (fun x hx hn=>by rw [Below.heap_setCell _ _ _ _ hn,Below.heap_setCell _ _ _ _ hn,Below.heap_setCell _ _ _ _ hn,Below.heap_setCell _ _ _ _ hn,Below.heap_setCell _ _ _ _ hn,Below.heap_setCell _ _ _ _ hn,Below.heap_setCell _ _ _ _ hn,Below.heap_setCell _ _ _ _ hn];exact HX.out x hx)) ((go_at_call 49;refine cT.mono ?_;rintro e w3 ⟨rfl,SA,hres,HX,HBB⟩;have y0:=row_cell (i:=0) hres rfl;have y1:=row_cell (i:=1) hres rfl;have y2:=row_cell (i:=2) hres rfl;have y3:=row_cell (i:=3) hres rfl;have y4:=row_cell (i:=4) hres rfl;have y5:=row_cell (i:=5) hres rfl;have y6:=row_cell (i:=6) hres rfl;have y7:=row_cell (i:=7) hres rfl;have g0:=row_free (i:=0) hres;have g1:=row_free (i:=1) hres;have g2:=row_free (i:=2) hres;have g3:=row_free (i:=3) hres;have g4:=row_free (i:=4) hres;have g5:=row_free (i:=5) hres;have g6:=row_free (i:=6) hres;have g7:=row_free (i:=7) hres))
      go_wp2
      have hp:=wr_put hres (.int .i64 r.err) (.int .i64 r.N) (.int .i64 n) (.string ⟨r.got.toArray⟩) (.int .i64 r.of) (.int .i64 r.mo) (.bool false) (.int .i64 r.rd)
      have e0:=row_cell (i:=0) hp rfl
      have e1:=row_cell (i:=1) hp rfl
      have e2:=row_cell (i:=2) hp rfl
      have e3:=row_cell (i:=3) hp rfl
      have e4:=row_cell (i:=4) hp rfl
      have e5:=row_cell (i:=5) hp rfl
      have e6:=row_cell (i:=6) hp rfl
      have e7:=row_cell (i:=7) hp rfl
      refine bodyPost_ret (v:=wnV r) ?_ rfl ⟨r,rfl,HF.out.rel,?_⟩
      · unfold wnV
        rw [HF.out.cnt]
        simp [results,Tryz.results26,go_sem,e0,e1,e2,e3,e4,e5,e6,e7]
      · have hz3:=HB3.out.2.1
        have hW2:Below W.heap.size W w3:=(HB3.out.1.trans (HG.out.1.mono (by omega))).trans (HBB.out.mono (by omega))
        exact (((((((hW2.setCell (p:=⟨W.heap.size+1+1,0,none⟩) (by show _≤W.heap.size+1+1;omega) _).setCell (p:=⟨W.heap.size+1+1,1,none⟩) (by show _≤W.heap.size+1+1;omega) _).setCell (p:=⟨W.heap.size+1+1,2,none⟩) (by show _≤W.heap.size+1+1;omega) _).setCell (p:=⟨W.heap.size+1+1,3,none⟩) (by show _≤W.heap.size+1+1;omega) _).setCell (p:=⟨W.heap.size+1+1,4,none⟩) (by show _≤W.heap.size+1+1;omega) _).setCell (p:=⟨W.heap.size+1+1,5,none⟩) (by show _≤W.heap.size+1+1;omega) _).setCell (p:=⟨W.heap.size+1+1,6,none⟩) (by show _≤W.heap.size+1+1;omega) _).setCell (p:=⟨W.heap.size+1+1,7,none⟩) (by show _≤W.heap.size+1+1;omega) _
  · simp only [srcV,hs,svOf,if_true,Option.isSome_none,Bool.false_eq_true,if_false] at CW
    go_enter Tryz.func26,Tryz.ntmps26
    go_wp2_with (first
      | (go_at_call 45;refine cS.mono ?_;rintro e w1 ⟨bs,cv,rfl,d1,d2,d3,d4,d5⟩;have l0:=(d5.cell (p:=⟨W.heap.size+1,0,none⟩) (by show W.heap.size+1 < _;have:=HB3.out.2.1;omega)).trans k0;have l1:=(d5.cell (p:=⟨W.heap.size+1,1,none⟩) (by show W.heap.size+1 < _;have:=HB3.out.2.1;omega)).trans k1;have l2:=(d5.cell (p:=⟨W.heap.size+1,2,none⟩) (by show W.heap.size+1 < _;have:=HB3.out.2.1;omega)).trans k2;have l3:=(d5.cell (p:=⟨W.heap.size+1,3,none⟩) (by show W.heap.size+1 < _;have:=HB3.out.2.1;omega)).trans k3)
      | (go_at_call 54;refine (CW.out w1 bs cv d1 d2 d3 d4 d5).mono ?_;rintro e w2 ⟨n,ev,gv,r,rfl,HF,HG⟩;rcases HF.out.form with hev | ⟨t,x,hev⟩ <;> subst hev))
    all_goals
      have hr2:w2.heap[W.heap.size+1+1]?=some wrZero:=(HG.out.1.block _ (by have:=HB3.out.2.1;omega)).trans HB3.out.2.2
      have z2:=HG.out.2
      have z5:=d5.size
      obtain ⟨kp,cT⟩:=ht_tail HF.out hr2 (by have:=HB3.out.2.1;omega)
      have KP:Hid _:=kp
      have HD:Hid (Below W3.heap.size W3 w1):=d5
      clear kp d1 d2 d3 d4 d5 hr2 CW cS l0 l1 l2 l3 j0 j1 j2 j3 k0 k1 k2 k3 hW3
      have S0:=KP.out w2.drew (fun _ _ _=>rfl)
      unfold HtS at cT S0
      go_region_held3 (fun w'=>w'.cell? ⟨w1.heap.size,8,none⟩=some gv∧w'.cell? ⟨w1.heap.size,5,none⟩=some (.int .i64 r.of)∧w'.cell? ⟨w1.heap.size,6,none⟩=some (.int .i64 r.mo)∧w'.cell? ⟨w1.heap.size,7,none⟩=some (.bool false)∧w'.cell? ⟨bs,4,none⟩=some (.int .i64 r.rd)∧(convert 107 9 gv).run Tryz.prog w'=.ok (.string ⟨r.got.toArray⟩) w') (first | with_reducible exact S0 | with_reducible exact SA | exact KP.out _ (fun x hx hn=>by rw [Below.heap_setCell _ _ _ _ hn,Below.heap_setCell _ _ _ _ hn,Below.heap_setCell _ _ _ _ hn,Below.heap_setCell _ _ _ _ hn,Below.heap_setCell _ _ _ _ hn,Below.heap_setCell _ _ _ _ hn,Below.heap_setCell _ _ _ _ hn,Below.heap_setCell _ _ _ _ hn];exact HX.out x hx)) ((go_at_call 49;refine cT.mono ?_;rintro e w3 ⟨rfl,SA,hres,HX,HBB⟩;have y0:=row_cell (i:=0) hres rfl;have y1:=row_cell (i:=1) hres rfl;have y2:=row_cell (i:=2) hres rfl;have y3:=row_cell (i:=3) hres rfl;have y4:=row_cell (i:=4) hres rfl;have y5:=row_cell (i:=5) hres rfl;have y6:=row_cell (i:=6) hres rfl;have y7:=row_cell (i:=7) hres rfl;have g0:=row_free (i:=0) hres;have g1:=row_free (i:=1) hres;have g2:=row_free (i:=2) hres;have g3:=row_free (i:=3) hres;have g4:=row_free (i:=4) hres;have g5:=row_free (i:=5) hres;have g6:=row_free (i:=6) hres;have g7:=row_free (i:=7) hres))
      go_wp2
      have hp:=wr_put hres (.int .i64 r.err) (.int .i64 r.N) (.int .i64 n) (.string ⟨r.got.toArray⟩) (.int .i64 r.of) (.int .i64 r.mo) (.bool false) (.int .i64 r.rd)
      have e0:=row_cell (i:=0) hp rfl
      have e1:=row_cell (i:=1) hp rfl
      have e2:=row_cell (i:=2) hp rfl
      have e3:=row_cell (i:=3) hp rfl
      have e4:=row_cell (i:=4) hp rfl
      have e5:=row_cell (i:=5) hp rfl
      have e6:=row_cell (i:=6) hp rfl
      have e7:=row_cell (i:=7) hp rfl
      refine bodyPost_ret (v:=wnV r) ?_ rfl ⟨r,rfl,HF.out.rel,?_⟩
      · unfold wnV
        rw [HF.out.cnt]
        simp [results,Tryz.results26,go_sem,e0,e1,e2,e3,e4,e5,e6,e7]
      · have hz3:=HB3.out.2.1
        have hW2:Below W.heap.size W w3:=(HB3.out.1.trans (HG.out.1.mono (by omega))).trans (HBB.out.mono (by omega))
        exact (((((((hW2.setCell (p:=⟨W.heap.size+1+1,0,none⟩) (by show _≤W.heap.size+1+1;omega) _).setCell (p:=⟨W.heap.size+1+1,1,none⟩) (by show _≤W.heap.size+1+1;omega) _).setCell (p:=⟨W.heap.size+1+1,2,none⟩) (by show _≤W.heap.size+1+1;omega) _).setCell (p:=⟨W.heap.size+1+1,3,none⟩) (by show _≤W.heap.size+1+1;omega) _).setCell (p:=⟨W.heap.size+1+1,4,none⟩) (by show _≤W.heap.size+1+1;omega) _).setCell (p:=⟨W.heap.size+1+1,5,none⟩) (by show _≤W.heap.size+1+1;omega) _).setCell (p:=⟨W.heap.size+1+1,6,none⟩) (by show _≤W.heap.size+1+1;omega) _).setCell (p:=⟨W.heap.size+1+1,7,none⟩) (by show _≤W.heap.size+1+1;omega) _
end Go.Proofs.YtljcljipppjnoaaGreatDoor
namespace Go.Proofs.YtljcljipppjnoaaGreatDoor
open Go.RowKit Go.Shelf
def u0:Ou:=⟨.slice none 0 0,[],0,0,0⟩
theorem u0_ok (w0:World):u0.Ok w0:=⟨Or.inl ⟨rfl,none,0,rfl⟩,Nat.zero_le _⟩
def uT (tv:Value) (ts:List Int):Ou:=⟨tv,ts,0,0,0⟩
theorem uT_ok {w0:World} {tv:Value} {ts:List Int} (h:NumsAt tv ts w0) (hb:∀ t ∈ ts,-9223372036854775808≤t∧t≤9223372036854775807) (hl:ts.length≤1048576):(uT tv ts).Ok w0:=by
  refine ⟨?_,hl⟩
  rcases h with ⟨h1,ca,cap,h2⟩ | ⟨g,o,cap,h1,h2,h3⟩
  · exact Or.inl ⟨h1,ca,cap,h2⟩
  · by_cases h0:ts=[]
    · left
      refine ⟨h0,some ⟨g,o,none⟩,cap,?_⟩
      show tv=_
      rw [h1,h0]
      rfl
    · exact Or.inr ⟨h0,g,o,cap,h1,h2,fun i t hi=>⟨h3 i t hi,hb t (List.mem_of_getElem? hi)⟩⟩
end Go.Proofs.YtljcljipppjnoaaGreatDoor
namespace Go.Proofs.YtljcljipppjnoaaGreatDoor
open Go.RowKit Go.Shelf
theorem events_nil5:eventsS []=[]:=by
  unfold eventsS evUpto
  have:blocksAt 3 (linesL [] [])=[]:=by simp [linesL,blocksAt,blocksF]
  rw [this]
  rfl
theorem page_nil {q:Gh} (h:q.o=.fine ⟨#[]⟩):pageS (evq q)=[]:=by
  unfold evq
  rw [h]
  show pageS (eventsS (reg ⟨#[]⟩))=[]
  have:reg ⟨#[]⟩=[]:=rfl
  rw [this,events_nil5]
  rfl
theorem wr_none {q:Gh} {s:Option Ou} {r:Wn} (h:HtRel q s r) (ho:q.o=.fine ⟨#[]⟩) (hs:s.isSome=true):r.err=0∧r.cnt=0∧r.of=0:=by
  rcases h.fine ⟨_,ho⟩ with ⟨e,_,tk,of,got,hr,hc,hg⟩ | ⟨u,wr,N,hu,hb,_⟩
  · have h1:=hr.sum
    have h2:=hr.tk_ge
    rw [page_nil ho] at h1
    simp at h1
    obtain ⟨_,g2⟩:=hg hs
    exact ⟨e,by omega,by omega⟩
  · have:=hb.lt
    rw [page_nil ho] at this
    simp at this
def pageD (o:Out):List UInt8:=match o with
  | .fine s=>pageS (eventsS (reg s))
  | _=>[]
theorem pageD_fine {q:Gh} (h:∃ t,q.o=.fine t):pageS (evq q)=pageD q.o:=by
  obtain ⟨t,ht⟩:=h
  unfold evq
  rw [ht]
  rfl
theorem wr_free {q:Gh} {r:Wn} (h:HtRel q none r):r.err=outErr q.o∧r.N=outN q.o∧r.cnt=((pageD q.o).length:Nat):=by
  by_cases hf:∃ t,q.o=.fine t
  · rcases h.fine hf with ⟨e,eN,tk,of,got,hr,hc,_⟩ | ⟨u,wr,N,hu,_⟩
    · obtain ⟨a1,a2⟩:=Run.all (show Run noU.one noU.fa noU.la noU.li (pageS (evq q)) of tk got [] [] from hr) (Or.inl (by decide))
      rw [pageD_fine hf] at a2
      obtain ⟨t,ht⟩:=hf
      exact ⟨by rw [e,ht];rfl,by rw [eN,ht];rfl,by rw [hc,a2]⟩
    · cases hu
  · obtain ⟨e1,e2,e3,_⟩:=h.bad hf
    refine ⟨e1,e2,?_⟩
    rw [e3]
    cases ho:q.o with
    | fine t=>exact absurd ⟨t,ho⟩ hf
    | long=>rfl
    | idle=>rfl
    | fail k=>rfl
theorem wr_bad {q:Gh} {s:Option Ou} {r:Wn} (h:HtRel q s r) (hf:¬ ∃ t,q.o=.fine t):r.err=outErr q.o∧r.N=outN q.o∧r.cnt=0∧r.of=0∧r.rd=q.n∧r.mo≤16:=by
  obtain ⟨e1,e2,e3,e4,_⟩:=h.bad hf
  exact ⟨e1,e2,e3,e4,h.rd,h.mo⟩
def liedB (u:Ou) (r:Wn):Bool:=decide (0 < u.la) && decide (u.la≤r.of)
def cannotB (u:Ou):Bool:=decide (u.li < 1) || decide (16 < u.li)
def failB (u:Ou) (r:Wn):Bool:=decide (0 < u.fa) && decide (u.fa≤r.of)
theorem wr_count {q:Gh} {u:Ou} {r:Wn} (h:HtRel q (some u) r) (hf:∃ t,q.o=.fine t):0≤r.cnt∧r.cnt≤((pageD q.o).length:Nat):=by
  rcases h.fine hf with ⟨e,_,tk,of,got,hr,hc,_⟩ | ⟨u',wr,N,hu,hb,_,hc,_⟩
  · have:=hr.sum
    rw [pageD_fine hf] at this
    omega
  · have:=hb.lt
    rw [pageD_fine hf] at this
    omega
theorem wr_cases {q:Gh} {u:Ou} {r:Wn} (h:HtRel q (some u) r) (hf:∃ t,q.o=.fine t) (hno:¬ (liedB u r=true∧cannotB u=false)) :
    r.got <+: pageD q.o∧(liedB u r=true→r.err=3∧(r.of:Int)=u.la∧r.cnt=r.N∧r.N≤(r.got.length:Nat)) ∧
    (liedB u r=false→failB u r=true→r.err=5∧(r.of:Int)=u.fa∧r.cnt=r.N∧r.N≤(r.got.length:Nat)) ∧
    (liedB u r=false→failB u r=false→r.err=0∧r.cnt=((pageD q.o).length:Nat)∧r.got=pageD q.o∧(r.of=0 ↔ pageD q.o=[])):=by
  have hlied:liedB u r=true ↔ (0 < u.la∧u.la≤r.of):=by simp [liedB]
  have hcan:cannotB u=false ↔ (1≤u.li∧u.li≤16):=by simp [cannotB]
  have hfail:failB u r=true ↔ (0 < u.fa∧u.fa≤r.of):=by simp [failB]
  rcases h.fine hf with ⟨e,_,tk,of,got,hr,hc,hg⟩ | ⟨u',wr,N,hu,hb,hN,hc,he⟩
  · obtain ⟨g1,g2⟩:=hg rfl
    have hr:Run u.one u.fa u.la u.li (pageS (evq q)) of tk got [] []:=hr
    rw [pageD_fine hf] at hr
    have hnl:u.la < 1∨(of:Int) < u.la:=by
      by_cases h1:u.la < 1
      · exact Or.inl h1
      · right
        apply Int.not_le.1
        intro h2
        obtain ⟨p1,p2,_⟩:=hr.past (by omega) h2
        exact hno ⟨hlied.2 ⟨by omega,by rw [g2];exact h2⟩,hcan.2 ⟨p1,p2⟩⟩
    obtain ⟨a1,a2⟩:=hr.all hnl
    have nl:¬ liedB u r=true:=fun hh=>by have:=hlied.1 hh;rw [g2] at this;omega
    refine ⟨⟨[],by rw [g1,a1];simp⟩,fun hh=>absurd hh nl,fun _ hh=>?_,fun _ _=>⟨e,by rw [hc,a2],by rw [g1,a1],?_⟩⟩
    · have h1:=hfail.1 hh
      rw [g2] at h1
      have:=hr.fail
      omega
    · rw [g2]
      have h1:=hr.ge
      have h2:=hr.gl
      rw [a1] at h1 h2
      constructor
      · intro h0
        exact List.eq_nil_of_length_eq_zero (by omega)
      · intro h0
        rw [h0] at h1
        simpa using h1
  · injection hu with hu
    subst hu
    rw [pageD_fine hf] at hb
    have hpos:=hb.pos
    rcases hb.kind with ⟨hw,k1,k2⟩ | ⟨hw,k1⟩
    · have hnl:u.la < 1∨(r.of:Int)≤u.la:=by
        by_cases h1:u.la < 1
        · exact Or.inl h1
        · right
          apply Int.not_lt.1
          intro h2
          obtain ⟨p1,p2⟩:=hb.past (by omega) h2
          exact hno ⟨hlied.2 ⟨by omega,by omega⟩,hcan.2 ⟨p1,p2⟩⟩
      obtain ⟨b1,b2,_⟩:=hb.pre hnl
      have nl:¬ liedB u r=true:=fun hh=>by have:=hlied.1 hh;omega
      have yf:failB u r=true:=hfail.2 ⟨by omega,by omega⟩
      refine ⟨b1,fun hh=>absurd hh nl,fun _ _=>⟨by rw [he,hw];rfl,by omega,by rw [hc,hN],by rw [hN];omega⟩,fun _ hh=>by rw [yf] at hh;cases hh⟩
    · obtain ⟨b1,b2,_⟩:=hb.pre (Or.inr (by omega))
      have yl:liedB u r=true:=hlied.2 ⟨by omega,by omega⟩
      exact ⟨b1,fun _=>⟨by rw [he,hw];rfl,by omega,by rw [hc,hN],by rw [hN];omega⟩,fun hh=>(by rw [yl] at hh;cases hh),fun hh=>(by rw [yl] at hh;cases hh)⟩
end Go.Proofs.YtljcljipppjnoaaGreatDoor
namespace Go.Proofs.YtljcljipppjnoaaGreatDoor
open Go.RowKit Go.Shelf
structure Mem5 (W:World) (L:List (Nat × Obj)) (w:World):Prop where
  below:Below W.heap.size W w
  blk:∀ n o,(n,o) ∈ L→w.heap[n]?=some o
theorem Mem5.next {W:World} {L:List (Nat × Obj)} {w w':World} (h:Mem5 W L w) (hb:Below w.heap.size w w'):Mem5 W L w' :=
  ⟨h.below.trans (hb.mono h.below.size),fun n o ho=>(hb.block n (Array.getElem?_eq_some_iff.1 (h.blk n o ho)).1).trans (h.blk n o ho)⟩
theorem Mem5.add {W:World} {L:List (Nat × Obj)} {w:World} (h:Mem5 W L w) (o:Array Value) (t:TypeId):Mem5 W ((w.heap.size,.cells o t (0,0)) :: L) (w.alloc (.cells o t)):=by
  have hn:=h.next ((Below.refl _ w).alloc (Nat.le_refl _) (.cells o t))
  refine ⟨hn.below,fun n b hb=>?_⟩
  rcases List.mem_cons.1 hb with e | e
  · injection e with e1 e2
    subst e1
    subst e2
    exact heap_new _ _ rfl
  · exact hn.blk n b e
theorem Mem5.start (W:World):Mem5 W [] W:=⟨Below.refl _ W,fun _ _ h=>by cases h⟩
theorem pageD_len {q:Gh} (hq:q.Ok):(pageD q.o).length≤68719476736:=by
  by_cases hf:∃ t,q.o=.fine t
  · rw [← pageD_fine hf]
    exact pageq_len hq
  · cases ho:q.o with
    | fine t=>exact absurd ⟨t,ho⟩ hf
    | long=>exact Nat.zero_le _
    | idle=>exact Nat.zero_le _
    | fail k=>exact Nat.zero_le _
theorem pageD_any {q:Gh} (hq:q.Ok) (hs:q.src=true) (hf:∃ t,q.o=.fine t) (w:World) :
    Calls Tryz.prog 25 #[.string (outText q.o)] w fun e w'=>e=.returned (.string ⟨(pageD q.o).toArray⟩)∧Below w.heap.size w w':=by
  obtain ⟨t,ht⟩:=hf
  have hg:=hq.gat hs
  rw [ht] at hg ⊢
  have h3:=gat_size hg
  have h4:=reg_len t
  exact rpage_any (reg t) w (by omega)
theorem outErr_bad {o:Out} (h:¬ ∃ t,o=.fine t):0 < outErr o:=by
  cases o with
  | fine t=>exact absurd ⟨t,rfl⟩ h
  | long=>decide
  | idle=>decide
  | fail k=>show (0:Int) < 4;decide
theorem pageD_bad {o:Out} (h:¬ ∃ t,o=.fine t):pageD o=[]:=by
  cases o with
  | fine t=>exact absurd ⟨t,rfl⟩ h
  | long=>rfl
  | idle=>rfl
  | fail k=>rfl
theorem in_gh (tx:ByteArray) (cs:List Int) (fa:Int) (wt:Bool) (h1:tx.size≤1048576) (h2:cs.length≤1048576):∃ q:Gh,q.Ok∧q.src=true∧q.tx=tx∧q.cs=cs∧q.fa=fa∧q.wt=wt:=by
  obtain ⟨⟨o,n⟩,hg⟩:=gat_some fa wt (cs.length+2) tx cs 0 ByteArray.empty 0 (by split <;> omega)
  exact ⟨⟨true,tx,cs,fa,wt,o,n⟩,⟨h1,h2,fun _=>hg,fun h=>by cases h⟩,rfl,rfl,rfl,rfl,rfl⟩
theorem in_come {q:Gh} (hq:q.Ok) (hs:q.src=true) (cv:Value) (w:World) (h:NumsAt cv q.cs w) :
    Calls Tryz.prog 24 #[.agg #[.string q.tx,cv,.int .i64 q.fa,.bool q.wt]] w fun e w'=>e=.returned (.agg #[.string (outText q.o),.int .i64 (outErr q.o),.int .i64 (outN q.o),.int .i64 q.n])∧Below w.heap.size w w' :=
  come_any (q.cs.length+2) q.tx cv q.cs q.fa q.wt q.o q.n w h hq.cuts hq.small (by have:=hq.cuts;omega) (hq.gat hs)
end Go.Proofs.YtljcljipppjnoaaGreatDoor
namespace Go.Proofs.YtljcljipppjnoaaGreatDoor
open Go.RowKit Go.Shelf
set_option maxRecDepth 100000 in
set_option maxHeartbeats 1000000 in
theorem writes_unfit (tx:ByteArray) (ca:Option Addr) (len cap:Nat) (fa:Int) (wt:Bool) (ta:Option Addr) (tl tc:Nat) (f l li:Int) (w:World) (hn:¬ (tx.size≤1048576∧len≤1048576∧tl≤1048576)) :
    Calls Tryz.prog 5 #[.agg #[.string tx,.slice ca len cap,.int .i64 fa,.bool wt],.agg #[.slice ta tl tc,.int .i64 f,.int .i64 l,.int .i64 li]] w fun e w'=>e=.returned (.bool true)∧Below w.heap.size w w':=by
  have hc:=fun W=>fit_any tx ca len cap fa wt W
  have M0:Hid (Mem5 w [] w):=Mem5.start w
  by_cases hf:(decide (tx.size≤1048576) && decide (len≤1048576))=false
  · rw [hf] at hc
    clear hf hn
    go_enter Tryz.func5,Tryz.ntmps5
    go_wp2_with (go_at_call 17;refine (hc _).mono ?_;rintro e w1 ⟨rfl,b1⟩)
    go_ret
    exact ⟨rfl,(((M0.out.add _ _).add _ _).next b1).below⟩
  · have hf:(decide (tx.size≤1048576) && decide (len≤1048576))=true:=by simpa using hf
    rw [hf] at hc
    have g2:decide ((1048576:Int) < (tl:Int))=true:=by
      simp at hf
      simp
      omega
    clear hf hn
    go_enter Tryz.func5,Tryz.ntmps5
    go_upto_region 2 with (go_at_call 17;refine (hc _).mono ?_;rintro e w1 ⟨rfl,b1⟩)
    have M1:Hid _:=((M0.out.add #[.string tx,.slice ca len cap,.int .i64 fa,.bool wt] 33).add #[.slice ta tl tc,.int .i64 f,.int .i64 l,.int .i64 li] 58).next b1
    have k0:w1.cell? ⟨w.heap.size+1,0,none⟩=some (.slice ta tl tc):=by simpa using row_cell (i:=0) (M1.out.blk _ _ List.mem_cons_self) rfl
    clear b1 hc
    go_wp2
    go_ret
    exact ⟨rfl,M1.out.below⟩
theorem below_drawn {B:Nat} {a w:World} (h:Below B a w) (n:Nat):Below B a (w.drewN n):=h.trans ⟨rfl,rfl,rfl,Nat.le_refl _,fun _ _=>rfl⟩
theorem writes_htmls {aL aI:Addr} {m:Int} {aS:Addr} {q:Gh} (hq:q.Ok) (hs:q.src=true) {u:Ou} {cv:Value} {W:World} (B:Base W aL aI m) (hS:W.cell? ⟨0,0,none⟩=some (sinkV aS)) (hN:NumsAt cv q.cs W) (hu:u.Ok W) :
    (∀ w,Below W.heap.size W w→Calls Tryz.prog 26 #[.agg #[.string q.tx,cv,.int .i64 q.fa,.bool q.wt],.agg #[u.tv,.int .i64 u.fa,.int .i64 u.la,.int .i64 u.li],.int .i64 1] w fun e w'=>∃ (N rd:Int) (got:ByteArray) (mo:Nat),e=.returned (.agg #[.int .i64 0,.int .i64 N,.int .i64 0,.string got,.int .i64 0,.int .i64 mo,.bool false,.int .i64 rd])∧Below w.heap.size w w') ∧
    (∀ w,Below W.heap.size W w→Calls Tryz.prog 26 #[.agg #[.string q.tx,cv,.int .i64 q.fa,.bool q.wt],.agg #[u.tv,.int .i64 u.fa,.int .i64 u.la,.int .i64 u.li],.int .i64 2] w fun e w'=>∃ (rd:Int) (got:ByteArray) (of mo:Nat),e=.returned (.agg #[.int .i64 (outErr q.o),.int .i64 (outN q.o),.int .i64 ((pageD q.o).length:Nat),.string got,.int .i64 of,.int .i64 mo,.bool false,.int .i64 rd])∧Below w.heap.size w w') ∧
    (∀ w,Below W.heap.size W w→Calls Tryz.prog 26 #[.agg #[.string q.tx,cv,.int .i64 q.fa,.bool q.wt],.agg #[u.tv,.int .i64 u.fa,.int .i64 u.la,.int .i64 u.li],.int .i64 0] w fun e w'=>∃ r:Wn,e=.returned (.agg #[.int .i64 r.err,.int .i64 r.N,.int .i64 r.cnt,.string ⟨r.got.toArray⟩,.int .i64 r.of,.int .i64 r.mo,.bool false,.int .i64 q.n])∧HtRel q (some u) r∧Below w.heap.size w w'):=by
  refine ⟨fun w hw=>?_,fun w hw=>?_,fun w hw=>?_⟩
  · have h:=html_any B hS (q:=⟨false,q.tx,q.cs,q.fa,q.wt,.fine ⟨#[]⟩,0⟩) ⟨hq.small,hq.cuts,(fun h=>by cases h),fun _=>⟨rfl,rfl⟩⟩ hu true cv w hw (hN.below hw) 1 (Or.inr (Or.inl ⟨rfl,rfl,rfl⟩))
    refine h.mono ?_
    rintro e w' ⟨r,rfl,hr,b⟩
    obtain ⟨e1,e2,e3⟩:=wr_none hr rfl (by simp)
    refine ⟨r.N,r.rd,⟨r.got.toArray⟩,r.mo,?_,b⟩
    unfold wnV
    rw [e1,e2,e3]
    rfl
  · refine (html_any B hS hq hu false cv w hw (hN.below hw) 2 (Or.inr (Or.inr ⟨rfl,hs,rfl⟩))).mono ?_
    rintro e w' ⟨r,rfl,hr,b⟩
    obtain ⟨e1,e2,e3⟩:=wr_free (by simpa using hr)
    refine ⟨r.rd,⟨r.got.toArray⟩,r.of,r.mo,?_,b⟩
    unfold wnV
    rw [e1,e2,e3]
  · refine (html_any B hS hq hu true cv w hw (hN.below hw) 0 (Or.inl ⟨rfl,hs,rfl⟩)).mono ?_
    rintro e w' ⟨r,rfl,hr,b⟩
    refine ⟨r,?_,by simpa using hr,b⟩
    unfold wnV
    rw [hr.rd]
set_option maxRecDepth 100000 in
set_option maxHeartbeats 4000000 in
theorem writes_fit {aL aI:Addr} {m:Int} {aS:Addr} (tx:ByteArray) (ca:Option Addr) (cap:Nat) (cs:List Int) (fa:Int) (wt:Bool) (ta:Option Addr) (ts:List Int) (tc:Nat) (f l li:Int) (W:World) (B:Base W aL aI m) (hS:W.cell? ⟨0,0,none⟩=some (sinkV aS)) (hN:NumsAt (.slice ca cs.length cap) cs W) (hu:(⟨.slice ta ts.length tc,ts,f,l,li⟩:Ou).Ok W) (h1:tx.size≤1048576) (h2:cs.length≤1048576) :
    Calls Tryz.prog 5 #[.agg #[.string tx,.slice ca cs.length cap,.int .i64 fa,.bool wt],.agg #[.slice ta ts.length tc,.int .i64 f,.int .i64 l,.int .i64 li]] W fun e w'=>e=.returned (.bool true)∧Below W.heap.size W w':=by
  obtain ⟨q,hq,q1,rfl,rfl,rfl,rfl⟩:=in_gh tx cs fa wt h1 h2
  have cF:=fun w=>fit_any q.tx ca q.cs.length cap q.fa q.wt w
  have hf:(decide (q.tx.size≤1048576) && decide (q.cs.length≤1048576))=true:=by simp [h1,h2]
  rw [hf] at cF
  have g2:decide ((1048576:Int) < (ts.length:Int))=false:=by have:=hu.len;simp at this ⊢;omega
  have cC:=fun (w:World) (hw:Below W.heap.size W w)=>in_come hq q1 (.slice ca q.cs.length cap) w (hN.below hw)
  obtain ⟨cH1,cH2,cH0⟩:=writes_htmls hq q1 B hS hN hu
  have cP:=fun (hfi:∃ t,q.o=.fine t) (w:World)=>pageD_any hq q1 hfi w
  have hpl:=pageD_len hq
  have M0:Hid (Mem5 W [] W):=Mem5.start W
  have CF:Hid _:=cF
  have CC:Hid _:=cC
  have C1:Hid _:=cH1
  have C2:Hid _:=cH2
  have C0:Hid _:=cH0
  have CP:Hid _:=cP
  have HQ:Hid (q.Ok):=hq
  clear cF cC cH1 cH2 cH0 cP hq hf hN hu B hS q1
  simp only at C0 C1 C2
  have hz:=size_of (pageD q.o)
  obtain ⟨oe,hoe⟩:∃ oe,outErr q.o=oe:=⟨_,rfl⟩
  obtain ⟨on,hon⟩:∃ on,outN q.o=on:=⟨_,rfl⟩
  obtain ⟨PG,hPG⟩:∃ PG,pageD q.o=PG:=⟨_,rfl⟩
  obtain ⟨ot,hot⟩:∃ ot,outText q.o=ot:=⟨_,rfl⟩
  rw [hoe,hon] at C2 CC
  rw [hPG] at C2 CP hz hpl
  rw [hot] at CC CP
  have HO:Hid (outErr q.o=oe∧outN q.o=on∧pageD q.o=PG∧outText q.o=ot):=⟨hoe,hon,hPG,hot⟩
  clear hoe hon hPG hot h1 h2
  go_enter Tryz.func5,Tryz.ntmps5
  go_upto_region 2 with (go_at_call 17;refine (CF.out _).mono ?_;rintro e w1 ⟨rfl,b1⟩)
  have M1:Mem5 W [(W.heap.size+1,.cells #[.slice ta ts.length tc,.int .i64 f,.int .i64 l,.int .i64 li] 58 (0,0)),(W.heap.size,.cells #[.string q.tx,.slice ca q.cs.length cap,.int .i64 q.fa,.bool q.wt] 33 (0,0))] w1:=by simpa using ((M0.out.add #[.string q.tx,.slice ca q.cs.length cap,.int .i64 q.fa,.bool q.wt] 33).add #[.slice ta ts.length tc,.int .i64 f,.int .i64 l,.int .i64 li] 58).next b1
  have k0:=row_cell (i:=0) (M1.blk _ _ List.mem_cons_self) rfl
  have j0:=row_cell (i:=0) (M1.blk _ _ (List.mem_cons_of_mem _ List.mem_cons_self)) rfl
  have j1:=row_cell (i:=1) (M1.blk _ _ (List.mem_cons_of_mem _ List.mem_cons_self)) rfl
  have j2:=row_cell (i:=2) (M1.blk _ _ (List.mem_cons_of_mem _ List.mem_cons_self)) rfl
  have j3:=row_cell (i:=3) (M1.blk _ _ (List.mem_cons_of_mem _ List.mem_cons_self)) rfl
  have N1:Hid _:=M1
  clear b1 CF M0 M1
  go_upto_region 6 with (go_at_call 24;refine (CC.out w1 N1.out.below).mono ?_;rintro e w2 ⟨rfl,b2⟩)
  obtain ⟨w3,hw3⟩:∃ w3,w2.alloc (.cells #[.string ot,.int .i64 oe,.int .i64 on,.int .i64 q.n] 49)=w3:=⟨_,rfl⟩
  have M3:Mem5 W _ w3:=hw3 ▸ (N1.out.next b2).add #[.string ot,.int .i64 oe,.int .i64 on,.int .i64 q.n] 49
  rw [hw3]
  clear hw3 b2 N1 k0 j0 j1 j2 j3 CC
  generalize w2.heap.size=bc at M3
  have c0:=row_cell (i:=0) (M3.blk _ _ List.mem_cons_self) rfl
  have c1:=row_cell (i:=1) (M3.blk _ _ List.mem_cons_self) rfl
  have N3:Hid _:=M3
  clear M3
  go_upto_if 27 with fail
  go_cut [7] (fun s wc=>s=.string ⟨PG.toArray⟩∧Hid (Below w3.heap.size w3 wc))
  case first =>
    by_cases hfi:∃ t,q.o=.fine t
    · have e0:oe=0:=by
        rw [← HO.out.1]
        obtain ⟨t,ht⟩:=hfi
        rw [ht]
        rfl
      subst e0
      have cP:=CP.out hfi w3
      clear CP C0 C1 C2 HO HQ
      go_wp2_with (go_at_call 25;refine cP.mono ?_;rintro e w4 ⟨rfl,b4⟩)
      go_meet
      case rel=>exact ⟨rfl,b4⟩
    · have h0:=outErr_bad hfi
      have h1:=pageD_bad hfi
      rw [HO.out.1] at h0
      rw [HO.out.2.2.1] at h1
      have e0:(oe == (0:Int))=false:=by simp;omega
      subst h1
      clear CP C0 C1 C2 HO HQ
      go_wp2
      go_meet
      case rel=>exact ⟨rfl,Below.refl _ w3⟩
  case rest =>
    obtain ⟨rfl,HB⟩:=hcut
    have M4:=N3.out.next HB.out
    clear c0 c1 N3 HB CP
    have j0:=row_cell (i:=0) (M4.blk _ _ (List.mem_cons_of_mem _ (List.mem_cons_of_mem _ List.mem_cons_self))) rfl
    have j1:=row_cell (i:=1) (M4.blk _ _ (List.mem_cons_of_mem _ (List.mem_cons_of_mem _ List.mem_cons_self))) rfl
    have j2:=row_cell (i:=2) (M4.blk _ _ (List.mem_cons_of_mem _ (List.mem_cons_of_mem _ List.mem_cons_self))) rfl
    have j3:=row_cell (i:=3) (M4.blk _ _ (List.mem_cons_of_mem _ (List.mem_cons_of_mem _ List.mem_cons_self))) rfl
    have k0:=row_cell (i:=0) (M4.blk _ _ (List.mem_cons_of_mem _ List.mem_cons_self)) rfl
    have k1:=row_cell (i:=1) (M4.blk _ _ (List.mem_cons_of_mem _ List.mem_cons_self)) rfl
    have k2:=row_cell (i:=2) (M4.blk _ _ (List.mem_cons_of_mem _ List.mem_cons_self)) rfl
    have k3:=row_cell (i:=3) (M4.blk _ _ (List.mem_cons_of_mem _ List.mem_cons_self)) rfl
    have N4:Hid _:=M4
    clear M4
    go_upto_region 9 with (go_at_call 26;refine (C1.out wc N4.out.below).mono ?_;rintro e w5 ⟨aN,ard,agot,amo,rfl,b5⟩)
    obtain ⟨w6,hw6⟩:∃ w6,w5.alloc (.cells #[.int .i64 0,.int .i64 aN,.int .i64 0,.string agot,.int .i64 0,.int .i64 amo,.bool false,.int .i64 ard] 61)=w6:=⟨_,rfl⟩
    have M6:Mem5 W _ w6:=hw6 ▸ (N4.out.next b5).add #[.int .i64 0,.int .i64 aN,.int .i64 0,.string agot,.int .i64 0,.int .i64 amo,.bool false,.int .i64 ard] 61
    rw [hw6]
    clear hw6 b5 N4 k0 k1 k2 k3 j0 j1 j2 j3 C1
    generalize w5.heap.size=b1 at M6
    have j0:=row_cell (i:=0) (M6.blk _ _ (List.mem_cons_of_mem _ (List.mem_cons_of_mem _ (List.mem_cons_of_mem _ List.mem_cons_self)))) rfl
    have j1:=row_cell (i:=1) (M6.blk _ _ (List.mem_cons_of_mem _ (List.mem_cons_of_mem _ (List.mem_cons_of_mem _ List.mem_cons_self)))) rfl
    have j2:=row_cell (i:=2) (M6.blk _ _ (List.mem_cons_of_mem _ (List.mem_cons_of_mem _ (List.mem_cons_of_mem _ List.mem_cons_self)))) rfl
    have j3:=row_cell (i:=3) (M6.blk _ _ (List.mem_cons_of_mem _ (List.mem_cons_of_mem _ (List.mem_cons_of_mem _ List.mem_cons_self)))) rfl
    have k0:=row_cell (i:=0) (M6.blk _ _ (List.mem_cons_of_mem _ (List.mem_cons_of_mem _ List.mem_cons_self))) rfl
    have k1:=row_cell (i:=1) (M6.blk _ _ (List.mem_cons_of_mem _ (List.mem_cons_of_mem _ List.mem_cons_self))) rfl
    have k2:=row_cell (i:=2) (M6.blk _ _ (List.mem_cons_of_mem _ (List.mem_cons_of_mem _ List.mem_cons_self))) rfl
    have k3:=row_cell (i:=3) (M6.blk _ _ (List.mem_cons_of_mem _ (List.mem_cons_of_mem _ List.mem_cons_self))) rfl
    have N6:Hid _:=M6
    clear M6
    go_upto_region 10 with (go_at_call 26;refine (C2.out w6 N6.out.below).mono ?_;rintro e w7 ⟨erd,egot,eof,emo,rfl,b7⟩)
    obtain ⟨w8,hw8⟩:∃ w8,w7.alloc (.cells #[.int .i64 oe,.int .i64 on,.int .i64 (PG.length:Nat),.string egot,.int .i64 eof,.int .i64 emo,.bool false,.int .i64 erd] 61)=w8:=⟨_,rfl⟩
    have M8:Mem5 W _ w8:=hw8 ▸ (N6.out.next b7).add #[.int .i64 oe,.int .i64 on,.int .i64 (PG.length:Nat),.string egot,.int .i64 eof,.int .i64 emo,.bool false,.int .i64 erd] 61
    rw [hw8]
    clear hw8 b7 N6 k0 k1 k2 k3 j0 j1 j2 j3 C2
    generalize w7.heap.size=b2 at M8
    have a0:=row_cell (i:=0) (M8.blk _ _ (List.mem_cons_of_mem _ List.mem_cons_self)) rfl
    have a2:=row_cell (i:=2) (M8.blk _ _ (List.mem_cons_of_mem _ List.mem_cons_self)) rfl
    have a4:=row_cell (i:=4) (M8.blk _ _ (List.mem_cons_of_mem _ List.mem_cons_self)) rfl
    have d0:=row_cell (i:=0) (M8.blk _ _ List.mem_cons_self) rfl
    have d1:=row_cell (i:=1) (M8.blk _ _ List.mem_cons_self) rfl
    have d2:=row_cell (i:=2) (M8.blk _ _ List.mem_cons_self) rfl
    have c1:=row_cell (i:=1) (M8.blk _ _ (List.mem_cons_of_mem _ (List.mem_cons_of_mem _ List.mem_cons_self))) rfl
    have c2:=row_cell (i:=2) (M8.blk _ _ (List.mem_cons_of_mem _ (List.mem_cons_of_mem _ List.mem_cons_self))) rfl
    have j0:=row_cell (i:=0) (M8.blk _ _ (List.mem_cons_of_mem _ (List.mem_cons_of_mem _ (List.mem_cons_of_mem _ (List.mem_cons_of_mem _ List.mem_cons_self))))) rfl
    have j1:=row_cell (i:=1) (M8.blk _ _ (List.mem_cons_of_mem _ (List.mem_cons_of_mem _ (List.mem_cons_of_mem _ (List.mem_cons_of_mem _ List.mem_cons_self))))) rfl
    have j2:=row_cell (i:=2) (M8.blk _ _ (List.mem_cons_of_mem _ (List.mem_cons_of_mem _ (List.mem_cons_of_mem _ (List.mem_cons_of_mem _ List.mem_cons_self))))) rfl
    have j3:=row_cell (i:=3) (M8.blk _ _ (List.mem_cons_of_mem _ (List.mem_cons_of_mem _ (List.mem_cons_of_mem _ (List.mem_cons_of_mem _ List.mem_cons_self))))) rfl
    have k0:=row_cell (i:=0) (M8.blk _ _ (List.mem_cons_of_mem _ (List.mem_cons_of_mem _ (List.mem_cons_of_mem _ List.mem_cons_self)))) rfl
    have k1:=row_cell (i:=1) (M8.blk _ _ (List.mem_cons_of_mem _ (List.mem_cons_of_mem _ (List.mem_cons_of_mem _ List.mem_cons_self)))) rfl
    have k2:=row_cell (i:=2) (M8.blk _ _ (List.mem_cons_of_mem _ (List.mem_cons_of_mem _ (List.mem_cons_of_mem _ List.mem_cons_self)))) rfl
    have k3:=row_cell (i:=3) (M8.blk _ _ (List.mem_cons_of_mem _ (List.mem_cons_of_mem _ (List.mem_cons_of_mem _ List.mem_cons_self)))) rfl
    have N8:Hid _:=M8
    clear M8
    go_upto_region 12 with fail
    clear a0 a2 a4 d0 d1 d2 c1 c2
    go_upto_region 13 with (go_at_call 26;refine (C0.out w8 N8.out.below).mono ?_;rintro e w9 ⟨r,rfl,HR,b9⟩)
    obtain ⟨wa,hwa⟩:∃ wa,w9.alloc (.cells #[.int .i64 r.err,.int .i64 r.N,.int .i64 r.cnt,.string ⟨r.got.toArray⟩,.int .i64 r.of,.int .i64 r.mo,.bool false,.int .i64 q.n] 61)=wa:=⟨_,rfl⟩
    have Ma:Mem5 W _ wa:=hwa ▸ (N8.out.next b9).add #[.int .i64 r.err,.int .i64 r.N,.int .i64 r.cnt,.string ⟨r.got.toArray⟩,.int .i64 r.of,.int .i64 r.mo,.bool false,.int .i64 q.n] 61
    rw [hwa]
    clear hwa b9 N8 k0 k1 k2 k3 j0 j1 j2 j3 C0
    generalize w9.heap.size=b3 at Ma
    have d0:=row_cell (i:=0) (Ma.blk _ _ List.mem_cons_self) rfl
    have d1:=row_cell (i:=1) (Ma.blk _ _ List.mem_cons_self) rfl
    have d2:=row_cell (i:=2) (Ma.blk _ _ List.mem_cons_self) rfl
    have d3:=row_cell (i:=3) (Ma.blk _ _ List.mem_cons_self) rfl
    have d4:=row_cell (i:=4) (Ma.blk _ _ List.mem_cons_self) rfl
    have d5:=row_cell (i:=5) (Ma.blk _ _ List.mem_cons_self) rfl
    have d6:=row_cell (i:=6) (Ma.blk _ _ List.mem_cons_self) rfl
    have d7:=row_cell (i:=7) (Ma.blk _ _ List.mem_cons_self) rfl
    have c1:=row_cell (i:=1) (Ma.blk _ _ (List.mem_cons_of_mem _ (List.mem_cons_of_mem _ (List.mem_cons_of_mem _ List.mem_cons_self)))) rfl
    have c2:=row_cell (i:=2) (Ma.blk _ _ (List.mem_cons_of_mem _ (List.mem_cons_of_mem _ (List.mem_cons_of_mem _ List.mem_cons_self)))) rfl
    have c3:=row_cell (i:=3) (Ma.blk _ _ (List.mem_cons_of_mem _ (List.mem_cons_of_mem _ (List.mem_cons_of_mem _ List.mem_cons_self)))) rfl
    have k1:=row_cell (i:=1) (Ma.blk _ _ (List.mem_cons_of_mem _ (List.mem_cons_of_mem _ (List.mem_cons_of_mem _ (List.mem_cons_of_mem _ List.mem_cons_self))))) rfl
    have k2:=row_cell (i:=2) (Ma.blk _ _ (List.mem_cons_of_mem _ (List.mem_cons_of_mem _ (List.mem_cons_of_mem _ (List.mem_cons_of_mem _ List.mem_cons_self))))) rfl
    have k3:=row_cell (i:=3) (Ma.blk _ _ (List.mem_cons_of_mem _ (List.mem_cons_of_mem _ (List.mem_cons_of_mem _ (List.mem_cons_of_mem _ List.mem_cons_self))))) rfl
    have NA:Hid (Below W.heap.size W wa):=Ma.below
    clear Ma
    have hmo:decide ((16:Int) < (r.mo:Int))=false:=by have:=HR.mo;simp;omega
    have HH:Hid _:=HR
    clear HR
    go_upto_region 15 with fail
    clear d5 d6 d7 c3 hmo
    by_cases hfi:∃ t,q.o=.fine t
    · have e0:oe=0:=by
        rw [← HO.out.1]
        obtain ⟨t,ht⟩:=hfi
        rw [ht]
        rfl
      subst e0
      clear c2
      go_upto_region 17 with fail
      go_cut [11] (fun v wx=>v=.bool (decide (li < 1) || decide (16 < li))∧wa=wx)
      case first =>
        clear c1 d0 d1 d2 d3 d4 k1 k2 HH HO hfi hpl hz NA
        as_aux_lemma =>
        by_cases h1:li < 1
        · have g1:decide (li < 1)=true:=by simpa using h1
          have E:Hid ((decide (li < 1) || decide (16 < li))=true):=by show _=_;simp [h1]
          go_wp2
          go_meet
          case rel=>exact ⟨by rw [E.out],rfl⟩
        · have g1:decide (li < 1)=false:=by simpa using h1
          by_cases h2:16 < li
          · have g2:decide (16 < li)=true:=by simpa using h2
            have E:Hid ((decide (li < 1) || decide (16 < li))=true):=by show _=_;simp [h2]
            go_wp2
            go_meet
            case rel=>exact ⟨by rw [E.out],rfl⟩
          · have g2:decide (16 < li)=false:=by simpa using h2
            have E:Hid ((decide (li < 1) || decide (16 < li))=false):=by show _=_;rw [g1,g2];rfl
            go_wp2
            go_meet
            case rel=>exact ⟨by rw [E.out],rfl⟩
      case rest =>
        obtain ⟨rfl,rfl⟩:=hcut
        obtain ⟨CB,hCB⟩:∃ CB,(decide (li < 1) || decide (16 < li))=CB:=⟨_,rfl⟩
        have HCB:Hid ((decide (li < 1) || decide (16 < li))=CB):=hCB
        rw [hCB]
        clear hCB k3
        go_upto_region 18 with fail
        go_cut [12] (fun v wx=>v=.bool (decide (0 < l) && decide (l≤(r.of:Int)))∧wa=wx)
        case first =>
          clear c1 d0 d1 d2 d3 k1 HH HO hfi hpl hz NA HCB
          as_aux_lemma =>
          by_cases h1:0 < l
          · have g1:decide (0 < l)=true:=by simpa using h1
            by_cases h2:l≤(r.of:Int)
            · have g2:decide (l≤(r.of:Int))=true:=by simpa using h2
              have E:Hid ((decide (0 < l) && decide (l≤(r.of:Int)))=true):=by show _=_;rw [g1,g2];rfl
              go_wp2
              go_meet
              case rel=>exact ⟨by rw [E.out],rfl⟩
            · have g2:decide (l≤(r.of:Int))=false:=by simpa using h2
              have E:Hid ((decide (0 < l) && decide (l≤(r.of:Int)))=false):=by show _=_;rw [g1,g2];rfl
              go_wp2
              go_meet
              case rel=>exact ⟨by rw [E.out],rfl⟩
          · have g1:decide (0 < l)=false:=by simpa using h1
            have E:Hid ((decide (0 < l) && decide (l≤(r.of:Int)))=false):=by show _=_;rw [g1];rfl
            go_wp2
            go_meet
            case rel=>exact ⟨by rw [E.out],rfl⟩
        case rest =>
          obtain ⟨rfl,rfl⟩:=hcut
          obtain ⟨LB,hLB⟩:∃ LB,(decide (0 < l) && decide (l≤(r.of:Int)))=LB:=⟨_,rfl⟩
          have HLB:Hid (liedB ⟨.slice ta ts.length tc,ts,f,l,li⟩ r=LB):=hLB
          have HC2:Hid (cannotB ⟨.slice ta ts.length tc,ts,f,l,li⟩=CB):=HCB.out
          rw [hLB]
          clear hLB HCB
          by_cases hno:LB=true∧CB=false
          · obtain ⟨rfl,rfl⟩:=hno
            obtain ⟨n0,n1⟩:=wr_count HH.out hfi
            rw [HO.out.2.2.1] at n1
            have g3:decide (r.cnt≤(PG.length:Int)+16)=true:=by simp;omega
            clear HH HO HC2 HLB hfi n0 n1 d0 d1 d3 k1 k2 c1
            as_aux_lemma =>
            go_wp2
            go_ret
            exact ⟨rfl,NA.out⟩
          · obtain ⟨p1,p2,p3,p4⟩:=wr_cases HH.out hfi (by rw [HLB.out,HC2.out];exact hno)
            rw [HLB.out] at p2 p3 p4
            rw [HO.out.2.2.1] at p1 p4
            have hgl:=p1.length_le
            have hzg:=size_of r.got
            have g4:decide ((PG.length:Int) < (r.got.length:Int))=false:=by simp;omega
            have hex:(⟨PG.toArray⟩:ByteArray).extract 0 r.got.length=⟨r.got.toArray⟩:=by
              obtain ⟨t,rfl⟩:=p1
              apply ByteArray.ext
              rw [ByteArray.data_extract]
              simp
            have HP:Hid _:=And.intro p2 (And.intro p3 p4)
            clear p1 p2 p3 p4 HH HO HC2 HLB hfi
            cases LB with
            | true =>
              have hCB:CB=true:=by
                cases CB with
                | true=>rfl
                | false=>exact absurd ⟨rfl,rfl⟩ hno
              subst hCB
              clear hno
              obtain ⟨e1,e2,e3,e4⟩:=HP.out.1 rfl
              rw [e1] at d0
              rw [e2] at d4
              rw [e3] at d2
              have g5:decide (r.N≤(r.got.length:Int))=true:=by simpa using e4
              clear HP e1 e2 e3 e4 k1 c1
              as_aux_lemma =>
              go_upto_region 21 with fail
              go_quiet (fail)
              go_wp2
              go_ret
              exact ⟨rfl,below_drawn NA.out _⟩
            | false =>
              clear hno
              have P3:Hid _:=HP.out.2.1 rfl
              have P4:Hid _:=HP.out.2.2 rfl
              clear HP k2 c1
              by_cases hfb:failB ⟨.slice ta ts.length tc,ts,f,l,li⟩ r=true
              · obtain ⟨e1,e2,e3,e4⟩:=P3.out hfb
                have hfb:(decide (0 < f) && decide (f≤(r.of:Int)))=true:=hfb
                obtain ⟨f1,f2⟩:=Bool.and_eq_true_iff.1 hfb
                rw [e2] at d4 f2
                rw [e1] at d0
                rw [e3] at d2
                have g5:decide (r.N≤(r.got.length:Int))=true:=by simpa using e4
                clear P3 P4 e1 e2 e3 e4 hfb
                as_aux_lemma =>
                go_upto_region 21 with fail
                go_quiet (fail)
                go_wp2
                go_ret
                exact ⟨rfl,below_drawn NA.out _⟩
              · have hfb:failB ⟨.slice ta ts.length tc,ts,f,l,li⟩ r=false:=by simpa using hfb
                obtain ⟨e1,e2,e3,e4⟩:=P4.out hfb
                have hfb:(decide (0 < f) && decide (f≤(r.of:Int)))=false:=hfb
                rw [e1] at d0
                rw [e2] at d2
                rw [e3] at d3 hex hzg g4 hgl
                clear P3 P4 e1 e2 e3 hzg d1
                as_aux_lemma =>
                obtain ⟨B1,hB1⟩:∃ B1,decide (0 < f)=B1:=⟨_,rfl⟩
                obtain ⟨B2,hB2⟩:∃ B2,decide (f≤(r.of:Int))=B2:=⟨_,rfl⟩
                rw [hB1,hB2] at hfb
                by_cases hp:PG=[]
                · subst hp
                  have z0:(r.of:Int)=0:=by have:=e4.2 rfl;omega
                  rw [z0] at d4 hB2
                  clear e4 z0
                  cases B1 with
                  | false =>
                    go_upto_region 21 with fail
                    go_quiet (fail)
                    go_wp2
                    go_ret
                    exact ⟨rfl,below_drawn NA.out _⟩
                  | true =>
                    cases B2 with
                    | false =>
                      go_upto_region 21 with fail
                      go_quiet (fail)
                      go_wp2
                      go_ret
                      exact ⟨rfl,below_drawn NA.out _⟩
                    | true=>cases hfb
                · have o0:((r.of:Int) == 0)=false:=by
                    have:r.of ≠ 0:=fun h=>hp (e4.1 h)
                    simp [this]
                  have s3:PG.isEmpty=false:=by
                    cases PG with
                    | nil=>exact absurd rfl hp
                    | cons c t=>rfl
                  clear e4 hp
                  cases B1 with
                  | false =>
                    go_upto_region 21 with fail
                    go_quiet (fail)
                    go_wp2
                    go_ret
                    exact ⟨rfl,below_drawn NA.out _⟩
                  | true =>
                    cases B2 with
                    | false =>
                      go_upto_region 21 with fail
                      go_quiet (fail)
                      go_wp2
                      go_ret
                      exact ⟨rfl,below_drawn NA.out _⟩
                    | true=>cases hfb
    · have h0:=outErr_bad hfi
      obtain ⟨e1,e2,e3,e4,_⟩:=wr_bad HH.out hfi
      rw [HO.out.1] at h0 e1
      rw [HO.out.2.1] at e2
      rw [e1] at d0
      rw [e2] at d1
      rw [e3] at d2
      rw [e4] at d4
      have e0:(oe != (0:Int))=true:=by simp;omega
      clear HH HO e1 e2 e3 e4 h0 hfi d3 k1 k2 k3
      as_aux_lemma =>
      go_wp2
      go_ret
      exact ⟨rfl,NA.out⟩
end Go.Proofs.YtljcljipppjnoaaGreatDoor
namespace Go.Proofs.YtljcljipppjnoaaGreatDoor
open Go.RowKit Go.Shelf
theorem cn_none {q:Gh} {s:Option Ou} {r:Wn} (h:HtRel q s r) (hs:s.isSome=true) (hp:pageD q.o=[]):r.err=outErr q.o∧r.of=0:=by
  by_cases hf:∃ t,q.o=.fine t
  · rcases h.fine hf with ⟨e,_,tk,of,got,hr,hc,hg⟩ | ⟨u,wr,N,hu,hb,_⟩
    · have h1:=hr.sum
      have h2:=hr.tk_ge
      rw [pageD_fine hf,hp] at h1
      simp at h1
      obtain ⟨_,g2⟩:=hg hs
      obtain ⟨t,ht⟩:=hf
      exact ⟨by rw [e,ht];rfl,by omega⟩
    · have:=hb.lt
      rw [pageD_fine hf,hp] at this
      simp at this
  · obtain ⟨e1,_,_,e4,_⟩:=h.bad hf
    exact ⟨e1,e4⟩
theorem fine_of_page {o:Out} (h:pageD o ≠ []):∃ t,o=.fine t:=by
  cases o with
  | fine t=>exact ⟨t,rfl⟩
  | long=>exact absurd rfl h
  | idle=>exact absurd rfl h
  | fail k=>exact absurd rfl h
theorem cn_fail {q:Gh} {u:Ou} {r:Wn} (h:HtRel q (some u) r) (ho:u.one=true) (hl:u.la < 1) {at':Nat} (ha:u.fa=at') (h1:1≤at') (h2:at'≤(pageD q.o).length) :
    r.err=5∧r.N=(at':Int) - 1∧r.cnt=(at':Int) - 1∧r.of=at':=by
  have hf:=fine_of_page (o:=q.o) (fun e=>by rw [e] at h2;simp at h2;omega)
  rcases h.fine hf with ⟨e,_,tk,of,got,hr,hc,hg⟩ | ⟨u',wr,N,hu,hb,hN,hc,he⟩
  · have hr:Run u.one u.fa u.la u.li (pageS (evq q)) of tk got [] []:=hr
    obtain ⟨a1,a2⟩:=hr.all (Or.inl hl)
    have h3:=hr.ones ho
    have h4:=hr.fail
    rw [a1,pageD_fine hf] at h3
    omega
  · injection hu with hu
    subst hu
    have hpos:=hb.pos
    obtain ⟨_,_,b3⟩:=hb.pre (Or.inl hl)
    have b3:=b3 ho
    rcases hb.kind with ⟨hw,k1,k2⟩ | ⟨hw,k1⟩
    · exact ⟨by rw [he,hw];rfl,by omega,by omega,by omega⟩
    · omega
theorem cn_lied {q:Gh} {u:Ou} {r:Wn} (h:HtRel q (some u) r) (ho:u.one=true) (hfa:u.fa < 1) {at':Nat} (ha:u.la=at') (h1:1≤at') (h2:at'≤(pageD q.o).length) (hli:1≤u.li→u.li≤16→((pageD q.o).length:Int) < u.li+((at':Int) - 1)) :
    r.err=3∧r.N=(at':Int) - 1∧r.cnt=(at':Int) - 1:=by
  have hf:=fine_of_page (o:=q.o) (fun e=>by rw [e] at h2;simp at h2;omega)
  rcases h.fine hf with ⟨e,_,tk,of,got,hr,hc,hg⟩ | ⟨u',wr,N,hu,hb,hN,hc,he⟩
  · have hr:Run u.one u.fa u.la u.li (pageS (evq q)) of tk got [] []:=hr
    by_cases h5:(of:Int) < u.la
    · obtain ⟨a1,a2⟩:=hr.all (Or.inr h5)
      have h3:=hr.ones ho
      rw [a1,pageD_fine hf] at h3
      omega
    · obtain ⟨p1,p2,g,p3,p4⟩:=hr.past (by omega) (by omega)
      have p4:=p4 ho
      rw [pageD_fine hf] at p3
      have:=hli p1 p2
      omega
  · injection hu with hu
    subst hu
    have hpos:=hb.pos
    rcases hb.kind with ⟨hw,k1,k2⟩ | ⟨hw,k1⟩
    · omega
    · obtain ⟨_,_,b3⟩:=hb.pre (Or.inr (by omega))
      have b3:=b3 ho
      exact ⟨by rw [he,hw];rfl,by omega,by omega⟩
theorem one_ok (w:World) (t:TypeId) (f l li:Int):(⟨.slice (some ⟨w.heap.size,0,none⟩) 1 1,[1],f,l,li⟩:Ou).Ok (w.alloc (.cells #[.int .i64 1] t)):=by
  refine ⟨Or.inr ⟨by simp,w.heap.size,0,1,rfl,by simp,fun i c hi=>?_⟩,by show 1≤1048576;omega⟩
  cases i with
  | zero =>
    simp at hi
    subst hi
    exact ⟨cell_of_one (heap_new _ _ rfl),by decide,by decide⟩
  | succ i=>simp at hi
theorem html_ones {aL aI:Addr} {m:Int} {aS:Addr} {q:Gh} (hq:q.Ok) (hs:q.src=true) {cv:Value} {W:World} (B:Base W aL aI m) (hS:W.cell? ⟨0,0,none⟩=some (sinkV aS)) (hN:NumsAt cv q.cs W) (f l li:Int) (w:World) (hw:Below W.heap.size W w) :
    Calls Tryz.prog 26 #[.agg #[.string q.tx,cv,.int .i64 q.fa,.bool q.wt],.agg #[.slice (some ⟨w.heap.size,0,none⟩) 1 1,.int .i64 f,.int .i64 l,.int .i64 li],.int .i64 0] (w.alloc (.cells #[.int .i64 1] 3)) fun e w'=>∃ (r:Wn),e=.returned (.agg #[.int .i64 r.err,.int .i64 r.N,.int .i64 r.cnt,.string ⟨r.got.toArray⟩,.int .i64 r.of,.int .i64 r.mo,.bool false,.int .i64 q.n])∧HtRel q (some ⟨.slice (some ⟨w.heap.size,0,none⟩) 1 1,[1],f,l,li⟩) r∧Below w.heap.size w w':=by
  have ha:Below w.heap.size w (w.alloc (.cells #[.int .i64 1] 3)):=(Below.refl _ w).alloc (Nat.le_refl _) _
  have hw2:=hw.trans (ha.mono hw.size)
  have hS2:(w.alloc (.cells #[.int .i64 1] 3)).cell? ⟨0,0,none⟩=some (sinkV aS):=(hw2.cell (p:=⟨0,0,none⟩) (lt_cell hS)).trans hS
  refine (html_any (B.to hw2) hS2 hq (one_ok w 3 f l li) true cv _ (Below.refl _ _) (hN.below hw2) 0 (Or.inl ⟨rfl,hs,rfl⟩)).mono ?_
  rintro e w' ⟨r,rfl,hr,b⟩
  refine ⟨r,?_,by simpa using hr,ha.trans (b.mono ha.size)⟩
  unfold wnV
  rw [hr.rd]
end Go.Proofs.YtljcljipppjnoaaGreatDoor
namespace Go.Proofs.YtljcljipppjnoaaGreatDoor
open Go.RowKit Go.Shelf
set_option maxHeartbeats 1000000 in
theorem counted_unfit (tx:ByteArray) (ca:Option Addr) (len cap:Nat) (fa:Int) (wt:Bool) (k:Int) (w:World) (hn:¬ (tx.size≤1048576∧len≤1048576)) :
    Calls Tryz.prog 6 #[.agg #[.string tx,.slice ca len cap,.int .i64 fa,.bool wt],.int .i64 k] w fun e w'=>e=.returned (.bool true)∧Below w.heap.size w w':=by
  have hc:=fun W=>fit_any tx ca len cap fa wt W
  have M0:Hid (Mem5 w [] w):=Mem5.start w
  have hf:(decide (tx.size≤1048576) && decide (len≤1048576))=false:=by
    rw [Bool.eq_false_iff]
    intro h
    simp at h
    exact hn h
  rw [hf] at hc
  clear hf hn
  go_enter Tryz.func6,Tryz.ntmps6
  go_wp2_with (go_at_call 17;refine (hc _).mono ?_;rintro e w1 ⟨rfl,b1⟩)
  go_ret
  exact ⟨rfl,((M0.out.add _ _).next b1).below⟩
theorem counted_htmls {aL aI:Addr} {m:Int} {aS:Addr} {q:Gh} (hq:q.Ok) (hs:q.src=true) {cv:Value} {W:World} (B:Base W aL aI m) (hS:W.cell? ⟨0,0,none⟩=some (sinkV aS)) (hN:NumsAt cv q.cs W) :
    (pageD q.o=[]→∀ w,Below W.heap.size W w→Calls Tryz.prog 26 #[.agg #[.string q.tx,cv,.int .i64 q.fa,.bool q.wt],.agg #[.slice none 0 0,.int .i64 0,.int .i64 0,.int .i64 0],.int .i64 0] w fun e w'=>∃ (N cnt:Int) (got:ByteArray) (mo:Nat),e=.returned (.agg #[.int .i64 (outErr q.o),.int .i64 N,.int .i64 cnt,.string got,.int .i64 0,.int .i64 mo,.bool false,.int .i64 q.n])∧Below w.heap.size w w') ∧
    (∀ at':Int,1≤at'→at'≤((pageD q.o).length:Nat) →
      (∀ w,Below W.heap.size W w→Calls Tryz.prog 26 #[.agg #[.string q.tx,cv,.int .i64 q.fa,.bool q.wt],.agg #[.slice (some ⟨w.heap.size,0,none⟩) 1 1,.int .i64 at',.int .i64 0,.int .i64 0],.int .i64 0] (w.alloc (.cells #[.int .i64 1] 3)) fun e w'=>∃ (got:ByteArray) (mo:Nat),e=.returned (.agg #[.int .i64 5,.int .i64 (at' - 1),.int .i64 (at' - 1),.string got,.int .i64 at',.int .i64 mo,.bool false,.int .i64 q.n])∧Hid (Below w.heap.size w w')) ∧
      (∀ li:Int,(1≤li→li≤16→((pageD q.o).length:Int) < li+(at' - 1))→∀ w,Below W.heap.size W w→Calls Tryz.prog 26 #[.agg #[.string q.tx,cv,.int .i64 q.fa,.bool q.wt],.agg #[.slice (some ⟨w.heap.size,0,none⟩) 1 1,.int .i64 0,.int .i64 at',.int .i64 li],.int .i64 0] (w.alloc (.cells #[.int .i64 1] 3)) fun e w'=>∃ (got:ByteArray) (of mo:Nat),e=.returned (.agg #[.int .i64 3,.int .i64 (at' - 1),.int .i64 (at' - 1),.string got,.int .i64 of,.int .i64 mo,.bool false,.int .i64 q.n])∧Hid (Below w.heap.size w w'))):=by
  refine ⟨fun hp w hw=>?_,fun at' h1 h2=>⟨fun w hw=>?_,fun li hli w hw=>?_⟩⟩
  · refine (html_any B hS hq (u0_ok W) true cv w hw (hN.below hw) 0 (Or.inl ⟨rfl,hs,rfl⟩)).mono ?_
    rintro e w' ⟨r,rfl,hr,b⟩
    obtain ⟨e1,e2⟩:=cn_none hr (by simp) hp
    refine ⟨r.N,r.cnt,⟨r.got.toArray⟩,r.mo,?_,b⟩
    unfold wnV
    rw [e1,e2,hr.rd]
    rfl
  · refine (html_ones hq hs B hS hN at' 0 0 w hw).mono ?_
    rintro e w' ⟨r,rfl,hr,b⟩
    obtain ⟨e1,e2,e3,e4⟩:=cn_fail hr (by simp [Ou.one]) (by show (0:Int) < 1;decide) (at':=at'.toNat) (by show at'=_;omega) (by omega) (by omega)
    refine ⟨⟨r.got.toArray⟩,r.mo,?_,b⟩
    rw [e1,e2,e3,e4,Int.toNat_of_nonneg (by omega)]
  · refine (html_ones hq hs B hS hN 0 at' li w hw).mono ?_
    rintro e w' ⟨r,rfl,hr,b⟩
    obtain ⟨e1,e2,e3⟩:=cn_lied hr (by simp [Ou.one]) (by show (0:Int) < 1;decide) (at':=at'.toNat) (by show at'=_;omega) (by omega) (by omega) (fun a b=>by have a:1≤li:=a;have b:li≤16:=b;have:=hli a b;show _ < li+_;omega)
    refine ⟨⟨r.got.toArray⟩,r.of,r.mo,?_,b⟩
    rw [e1,e2,e3,Int.toNat_of_nonneg (by omega)]
set_option maxRecDepth 100000 in
set_option maxHeartbeats 4000000 in
theorem counted_fit {aL aI:Addr} {m:Int} {aS:Addr} (tx:ByteArray) (ca:Option Addr) (cap:Nat) (cs:List Int) (fa:Int) (wt:Bool) (k:Int) (hk:-9223372036854775808≤k∧k≤9223372036854775807) (W:World) (B:Base W aL aI m) (hS:W.cell? ⟨0,0,none⟩=some (sinkV aS)) (hN:NumsAt (.slice ca cs.length cap) cs W) (h1:tx.size≤1048576) (h2:cs.length≤1048576) :
    Calls Tryz.prog 6 #[.agg #[.string tx,.slice ca cs.length cap,.int .i64 fa,.bool wt],.int .i64 k] W fun e w'=>e=.returned (.bool true)∧Below W.heap.size W w':=by
  obtain ⟨q,hq,q1,rfl,rfl,rfl,rfl⟩:=in_gh tx cs fa wt h1 h2
  have cF:=fun w=>fit_any q.tx ca q.cs.length cap q.fa q.wt w
  have hf:(decide (q.tx.size≤1048576) && decide (q.cs.length≤1048576))=true:=by simp [h1,h2]
  rw [hf] at cF
  have cC:=fun (w:World) (hw:Below W.heap.size W w)=>in_come hq q1 (.slice ca q.cs.length cap) w (hN.below hw)
  obtain ⟨cH0,cH1⟩:=counted_htmls hq q1 B hS hN
  have cP:=fun (hfi:∃ t,q.o=.fine t) (w:World)=>pageD_any hq q1 hfi w
  have hpl:=pageD_len hq
  have M0:Hid (Mem5 W [] W):=Mem5.start W
  have CF:Hid _:=cF
  have CC:Hid _:=cC
  have C0:Hid _:=cH0
  have C1:Hid _:=cH1
  have CP:Hid _:=cP
  clear cF cC cH0 cH1 cP hf hN B hS q1 hq
  have hz:=size_of (pageD q.o)
  obtain ⟨oe,hoe⟩:∃ oe,outErr q.o=oe:=⟨_,rfl⟩
  obtain ⟨on,hon⟩:∃ on,outN q.o=on:=⟨_,rfl⟩
  obtain ⟨PG,hPG⟩:∃ PG,pageD q.o=PG:=⟨_,rfl⟩
  obtain ⟨ot,hot⟩:∃ ot,outText q.o=ot:=⟨_,rfl⟩
  rw [hoe] at C0 CC
  rw [hon] at CC
  rw [hPG] at C0 C1 CP hz hpl
  rw [hot] at CC CP
  have HO:Hid (outErr q.o=oe∧pageD q.o=PG):=⟨hoe,hPG⟩
  have HK:Hid (-9223372036854775808≤k∧k≤9223372036854775807):=hk
  clear hoe hon hPG hot h1 h2 hk
  go_enter Tryz.func6,Tryz.ntmps6
  go_upto_region 4 with (go_at_call 17;refine (CF.out _).mono ?_;rintro e w1 ⟨rfl,b1⟩)
  have M1:Mem5 W [(W.heap.size,.cells #[.string q.tx,.slice ca q.cs.length cap,.int .i64 q.fa,.bool q.wt] 33 (0,0))] w1:=(M0.out.add #[.string q.tx,.slice ca q.cs.length cap,.int .i64 q.fa,.bool q.wt] 33).next b1
  have j0:=row_cell (i:=0) (M1.blk _ _ List.mem_cons_self) rfl
  have j1:=row_cell (i:=1) (M1.blk _ _ List.mem_cons_self) rfl
  have j2:=row_cell (i:=2) (M1.blk _ _ List.mem_cons_self) rfl
  have j3:=row_cell (i:=3) (M1.blk _ _ List.mem_cons_self) rfl
  have N1:Hid _:=M1
  clear b1 CF M0 M1
  go_upto_region 6 with (go_at_call 24;refine (CC.out w1 N1.out.below).mono ?_;rintro e w2 ⟨rfl,b2⟩)
  obtain ⟨w3,hw3⟩:∃ w3,w2.alloc (.cells #[.string ot,.int .i64 oe,.int .i64 on,.int .i64 q.n] 49)=w3:=⟨_,rfl⟩
  have M3:Mem5 W _ w3:=hw3 ▸ (N1.out.next b2).add #[.string ot,.int .i64 oe,.int .i64 on,.int .i64 q.n] 49
  rw [hw3]
  clear hw3 b2 N1 j0 j1 j2 j3 CC
  generalize w2.heap.size=bc at M3
  have c0:=row_cell (i:=0) (M3.blk _ _ List.mem_cons_self) rfl
  have c1:=row_cell (i:=1) (M3.blk _ _ List.mem_cons_self) rfl
  have N3:Hid _:=M3
  clear M3
  go_upto_if 23 with fail
  go_cut [7] (fun s wc=>s=.string ⟨PG.toArray⟩∧Hid (Below w3.heap.size w3 wc))
  case first =>
    by_cases hfi:∃ t,q.o=.fine t
    · have e0:oe=0:=by
        rw [← HO.out.1]
        obtain ⟨t,ht⟩:=hfi
        rw [ht]
        rfl
      subst e0
      have cP:=CP.out hfi w3
      clear CP C0 C1 HO HK N3
      go_wp2_with (go_at_call 25;refine cP.mono ?_;rintro e w4 ⟨rfl,b4⟩)
      go_meet
      case rel=>exact ⟨rfl,b4⟩
    · have h0:=outErr_bad hfi
      have h1:=pageD_bad hfi
      rw [HO.out.1] at h0
      rw [HO.out.2] at h1
      have e0:(oe == (0:Int))=false:=by simp;omega
      subst h1
      clear CP C0 C1 HO HK N3
      go_wp2
      go_meet
      case rel=>exact ⟨rfl,Below.refl _ w3⟩
  case rest =>
    obtain ⟨rfl,HB⟩:=hcut
    have M4:=N3.out.next HB.out
    clear c0 c1 N3 HB CP HO
    obtain ⟨w4,hw4⟩:∃ w4,wc=w4:=⟨_,rfl⟩
    subst hw4
    obtain ⟨K,hK⟩:∃ K:Int,K=if k < 0 then -(k+1) else k:=⟨_,rfl⟩
    have hK0:0≤K:=by rw [hK];split <;> omega
    have hK1:K≤9223372036854775807:=by have:=HK.out;rw [hK];split <;> omega
    have HKK:Hid (K=if k < 0 then -(k+1) else k):=hK
    have HM:Hid _:=M4
    clear hK M4
    go_upto_if 28 with fail
    go_cut [1] (fun v wx=>v=.int .i64 K∧wc=wx)
    case first =>
      by_cases h1:k < 0
      · have g1:decide (k < 0)=true:=by simpa using h1
        have E:Hid (K=-(k+1)):=by show _=_;rw [HKK.out,if_pos h1]
        have l1:=HK.out.1
        go_wp2
        go_meet
        case rel=>exact ⟨by rw [E.out],rfl⟩
      · have g1:decide (k < 0)=false:=by simpa using h1
        have E:Hid (K=k):=by show _=_;rw [HKK.out,if_neg h1]
        go_wp2
        go_meet
        case rel=>exact ⟨by rw [E.out],rfl⟩
    case rest =>
    obtain ⟨rfl,rfl⟩:=hcut
    clear HKK HK
    have M4:=HM.out
    have j0:=row_cell (i:=0) (M4.blk _ _ (List.mem_cons_of_mem _ List.mem_cons_self)) rfl
    have j1:=row_cell (i:=1) (M4.blk _ _ (List.mem_cons_of_mem _ List.mem_cons_self)) rfl
    have j2:=row_cell (i:=2) (M4.blk _ _ (List.mem_cons_of_mem _ List.mem_cons_self)) rfl
    have j3:=row_cell (i:=3) (M4.blk _ _ (List.mem_cons_of_mem _ List.mem_cons_self)) rfl
    have c1:=row_cell (i:=1) (M4.blk _ _ List.mem_cons_self) rfl
    have N4:Hid _:=M4
    clear M4 HM
    by_cases hp:PG=[]
    · subst hp
      clear C1
      as_aux_lemma =>
      go_upto_region 12 with (go_at_call 26;refine (C0.out rfl wc N4.out.below).mono ?_;rintro e w5 ⟨aN,acnt,agot,amo,rfl,b5⟩)
      obtain ⟨w6,hw6⟩:∃ w6,w5.alloc (.cells #[.int .i64 oe,.int .i64 aN,.int .i64 acnt,.string agot,.int .i64 0,.int .i64 amo,.bool false,.int .i64 q.n] 61)=w6:=⟨_,rfl⟩
      have M6:Mem5 W _ w6:=hw6 ▸ (N4.out.next b5).add #[.int .i64 oe,.int .i64 aN,.int .i64 acnt,.string agot,.int .i64 0,.int .i64 amo,.bool false,.int .i64 q.n] 61
      rw [hw6]
      clear hw6 b5 N4 j0 j1 j2 j3 c1 C0
      have d0:=row_cell (i:=0) (M6.blk _ _ List.mem_cons_self) rfl
      have d4:=row_cell (i:=4) (M6.blk _ _ List.mem_cons_self) rfl
      have c1:=row_cell (i:=1) (M6.blk _ _ (List.mem_cons_of_mem _ List.mem_cons_self)) rfl
      have N6:Hid _:=M6
      clear M6
      go_wp2
      go_ret
      exact ⟨rfl,N6.out.below⟩
    · have hp0:0 < PG.length:=List.length_pos_iff.2 hp
      have hl0:((PG.length:Int) == 0)=false:=by simp;omega
      have hmod:K.tmod (PG.length:Int)=((K.toNat % PG.length:Nat):Int):=by rw [Int.tmod_eq_emod_of_nonneg hK0,Int.natCast_emod,Int.toNat_of_nonneg hK0]
      have hml:=Nat.mod_lt K.toNat hp0
      obtain ⟨a,ha⟩:∃ a:Nat,K.toNat % PG.length=a:=⟨_,rfl⟩
      rw [ha] at hmod hml
      clear ha C0 c1 hp
      go_upto_region 13 with fail
      go_cut [9] (fun v wx=>v=.int .i64 (1+(a:Int))∧wc=wx)
      case first =>
        clear C1 N4 j0 j1 j2 j3
        as_aux_lemma =>
        go_wp2
        go_meet
        case rel=>exact ⟨rfl,rfl⟩
      case rest =>
      obtain ⟨rfl,rfl⟩:=hcut
      obtain ⟨AT,hAT⟩:∃ AT:Int,1+(a:Int)=AT:=⟨_,rfl⟩
      rw [hAT]
      have hA1:1≤AT:=by omega
      have hA2:AT≤(PG.length:Int):=by omega
      clear hAT hml hmod hl0 a
      obtain ⟨cF,cL⟩:=C1.out AT hA1 hA2
      have CF:Hid _:=cF
      have CV:Hid _:=cL 17 (fun _ h=>by omega)
      have CU:Hid _:=cL (-K) (fun h _=>by omega)
      have CX:Hid _:=fun (hr:(PG.length:Int) - AT+1 < 16)=>cL ((PG.length:Int) - AT+1+1) (fun _ _=>by omega)
      clear cF cL C1
      go_upto_region 15 with (go_at_call 26;refine (CF.out wc N4.out.below).mono ?_;rintro e w5 ⟨got5,mo5,rfl,b5⟩)
      obtain ⟨w6,hw6⟩:∃ w6,w5.alloc (.cells #[.int .i64 5,.int .i64 (AT - 1),.int .i64 (AT - 1),.string got5,.int .i64 AT,.int .i64 mo5,.bool false,.int .i64 q.n] 61)=w6:=⟨_,rfl⟩
      have M6:Mem5 W _ w6:=hw6 ▸ (N4.out.next b5.out).add #[.int .i64 5,.int .i64 (AT - 1),.int .i64 (AT - 1),.string got5,.int .i64 AT,.int .i64 mo5,.bool false,.int .i64 q.n] 61
      rw [hw6]
      clear hw6 b5 N4 j0 j1 j2 j3 CF
      generalize w5.heap.size=bw6 at M6
      have j0:=row_cell (i:=0) (M6.blk _ _ (List.mem_cons_of_mem _ (List.mem_cons_of_mem _ List.mem_cons_self))) rfl
      have j1:=row_cell (i:=1) (M6.blk _ _ (List.mem_cons_of_mem _ (List.mem_cons_of_mem _ List.mem_cons_self))) rfl
      have j2:=row_cell (i:=2) (M6.blk _ _ (List.mem_cons_of_mem _ (List.mem_cons_of_mem _ List.mem_cons_self))) rfl
      have j3:=row_cell (i:=3) (M6.blk _ _ (List.mem_cons_of_mem _ (List.mem_cons_of_mem _ List.mem_cons_self))) rfl
      have N6:Hid _:=M6
      clear M6
      go_upto_region 16 with (go_at_call 26;refine (CV.out w6 N6.out.below).mono ?_;rintro e w7 ⟨got7,of7,mo7,rfl,b7⟩)
      obtain ⟨w8,hw8⟩:∃ w8,w7.alloc (.cells #[.int .i64 3,.int .i64 (AT - 1),.int .i64 (AT - 1),.string got7,.int .i64 of7,.int .i64 mo7,.bool false,.int .i64 q.n] 61)=w8:=⟨_,rfl⟩
      have M8:Mem5 W _ w8:=hw8 ▸ (N6.out.next b7.out).add #[.int .i64 3,.int .i64 (AT - 1),.int .i64 (AT - 1),.string got7,.int .i64 of7,.int .i64 mo7,.bool false,.int .i64 q.n] 61
      rw [hw8]
      clear hw8 b7 N6 j0 j1 j2 j3 CV
      generalize w7.heap.size=bw8 at M8
      have j0:=row_cell (i:=0) (M8.blk _ _ (List.mem_cons_of_mem _ (List.mem_cons_of_mem _ (List.mem_cons_of_mem _ List.mem_cons_self)))) rfl
      have j1:=row_cell (i:=1) (M8.blk _ _ (List.mem_cons_of_mem _ (List.mem_cons_of_mem _ (List.mem_cons_of_mem _ List.mem_cons_self)))) rfl
      have j2:=row_cell (i:=2) (M8.blk _ _ (List.mem_cons_of_mem _ (List.mem_cons_of_mem _ (List.mem_cons_of_mem _ List.mem_cons_self)))) rfl
      have j3:=row_cell (i:=3) (M8.blk _ _ (List.mem_cons_of_mem _ (List.mem_cons_of_mem _ (List.mem_cons_of_mem _ List.mem_cons_self)))) rfl
      have N8:Hid _:=M8
      clear M8
      go_upto_region 17 with (go_at_call 26;refine (CU.out w8 N8.out.below).mono ?_;rintro e w9 ⟨got9,of9,mo9,rfl,b9⟩)
      obtain ⟨wa,hwa⟩:∃ wa,w9.alloc (.cells #[.int .i64 3,.int .i64 (AT - 1),.int .i64 (AT - 1),.string got9,.int .i64 of9,.int .i64 mo9,.bool false,.int .i64 q.n] 61)=wa:=⟨_,rfl⟩
      have MA:Mem5 W _ wa:=hwa ▸ (N8.out.next b9.out).add #[.int .i64 3,.int .i64 (AT - 1),.int .i64 (AT - 1),.string got9,.int .i64 of9,.int .i64 mo9,.bool false,.int .i64 q.n] 61
      rw [hwa]
      clear hwa b9 N8 j0 j1 j2 j3 CU
      generalize w9.heap.size=bwa at MA
      have j0:=row_cell (i:=0) (MA.blk _ _ (List.mem_cons_of_mem _ (List.mem_cons_of_mem _ (List.mem_cons_of_mem _ (List.mem_cons_of_mem _ List.mem_cons_self))))) rfl
      have j1:=row_cell (i:=1) (MA.blk _ _ (List.mem_cons_of_mem _ (List.mem_cons_of_mem _ (List.mem_cons_of_mem _ (List.mem_cons_of_mem _ List.mem_cons_self))))) rfl
      have j2:=row_cell (i:=2) (MA.blk _ _ (List.mem_cons_of_mem _ (List.mem_cons_of_mem _ (List.mem_cons_of_mem _ (List.mem_cons_of_mem _ List.mem_cons_self))))) rfl
      have j3:=row_cell (i:=3) (MA.blk _ _ (List.mem_cons_of_mem _ (List.mem_cons_of_mem _ (List.mem_cons_of_mem _ (List.mem_cons_of_mem _ List.mem_cons_self))))) rfl
      have NA:Hid _:=MA
      clear MA
      by_cases hr:(PG.length:Int) - AT+1 < 16
      · have gr:decide ((PG.length:Int) - AT+1 < 16)=true:=by simpa using hr
        have cX:=CX.out hr
        have CY:Hid _:=cX
        clear CX cX
        as_aux_lemma =>
        go_upto_region 20 with (go_at_call 26;refine (CY.out wa NA.out.below).mono ?_;rintro e wb ⟨gotb,ofb,mob,rfl,bb⟩)
        obtain ⟨wd,hwd⟩:∃ wd,wb.alloc (.cells #[.int .i64 3,.int .i64 (AT - 1),.int .i64 (AT - 1),.string gotb,.int .i64 ofb,.int .i64 mob,.bool false,.int .i64 q.n] 61)=wd:=⟨_,rfl⟩
        have MD:Mem5 W _ wd:=hwd ▸ (NA.out.next bb.out).add #[.int .i64 3,.int .i64 (AT - 1),.int .i64 (AT - 1),.string gotb,.int .i64 ofb,.int .i64 mob,.bool false,.int .i64 q.n] 61
        rw [hwd]
        clear hwd bb NA j0 j1 j2 j3 CY
        generalize wb.heap.size=bwd at MD
        have x0:=row_cell (i:=0) (MD.blk _ _ List.mem_cons_self) rfl
        have x1:=row_cell (i:=1) (MD.blk _ _ List.mem_cons_self) rfl
        have uu0:=row_cell (i:=0) (MD.blk _ _ (List.mem_cons_of_mem _ List.mem_cons_self)) rfl
        have uu1:=row_cell (i:=1) (MD.blk _ _ (List.mem_cons_of_mem _ List.mem_cons_self)) rfl
        have v0:=row_cell (i:=0) (MD.blk _ _ (List.mem_cons_of_mem _ (List.mem_cons_of_mem _ List.mem_cons_self))) rfl
        have v1:=row_cell (i:=1) (MD.blk _ _ (List.mem_cons_of_mem _ (List.mem_cons_of_mem _ List.mem_cons_self))) rfl
        have v2:=row_cell (i:=2) (MD.blk _ _ (List.mem_cons_of_mem _ (List.mem_cons_of_mem _ List.mem_cons_self))) rfl
        have s0:=row_cell (i:=0) (MD.blk _ _ (List.mem_cons_of_mem _ (List.mem_cons_of_mem _ (List.mem_cons_of_mem _ List.mem_cons_self)))) rfl
        have s1:=row_cell (i:=1) (MD.blk _ _ (List.mem_cons_of_mem _ (List.mem_cons_of_mem _ (List.mem_cons_of_mem _ List.mem_cons_self)))) rfl
        have s2:=row_cell (i:=2) (MD.blk _ _ (List.mem_cons_of_mem _ (List.mem_cons_of_mem _ (List.mem_cons_of_mem _ List.mem_cons_self)))) rfl
        have s4:=row_cell (i:=4) (MD.blk _ _ (List.mem_cons_of_mem _ (List.mem_cons_of_mem _ (List.mem_cons_of_mem _ List.mem_cons_self)))) rfl
        have ND:Hid _:=MD
        clear MD
        go_wp2
        go_ret
        exact ⟨rfl,ND.out.below⟩
      · have gr:decide ((PG.length:Int) - AT+1 < 16)=false:=by simpa using hr
        clear CX
        as_aux_lemma =>
        have uu0:=row_cell (i:=0) (NA.out.blk _ _ List.mem_cons_self) rfl
        have uu1:=row_cell (i:=1) (NA.out.blk _ _ List.mem_cons_self) rfl
        have v0:=row_cell (i:=0) (NA.out.blk _ _ (List.mem_cons_of_mem _ List.mem_cons_self)) rfl
        have v1:=row_cell (i:=1) (NA.out.blk _ _ (List.mem_cons_of_mem _ List.mem_cons_self)) rfl
        have v2:=row_cell (i:=2) (NA.out.blk _ _ (List.mem_cons_of_mem _ List.mem_cons_self)) rfl
        have s0:=row_cell (i:=0) (NA.out.blk _ _ (List.mem_cons_of_mem _ (List.mem_cons_of_mem _ List.mem_cons_self))) rfl
        have s1:=row_cell (i:=1) (NA.out.blk _ _ (List.mem_cons_of_mem _ (List.mem_cons_of_mem _ List.mem_cons_self))) rfl
        have s2:=row_cell (i:=2) (NA.out.blk _ _ (List.mem_cons_of_mem _ (List.mem_cons_of_mem _ List.mem_cons_self))) rfl
        have s4:=row_cell (i:=4) (NA.out.blk _ _ (List.mem_cons_of_mem _ (List.mem_cons_of_mem _ List.mem_cons_self))) rfl
        go_wp2
        go_ret
        exact ⟨rfl,NA.out.below⟩
end Go.Proofs.YtljcljipppjnoaaGreatDoor
