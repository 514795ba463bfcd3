import Derived.Test.YtljcljipppjnoaaGreatDoorJA14
import Derived.Test.YtljcljipppjnoaaGreatDoorJA16
import Derived.Test.YtljcljipppjnoaaGreatDoorJA33
import Derived.Test.YtljcljipppjnoaaGreatDoorJA34
namespace Go.Proofs.YtljcljipppjnoaaGreatDoor
open Go.RowKit Go.Shelf
structure Gh where
  src:Bool
  tx:ByteArray
  cs:List Int
  fa:Int
  wt:Bool
  o:Out
  n:Nat
structure Gh.Ok (q:Gh):Prop where
  small:q.tx.size≤1048576
  cuts:q.cs.length≤1048576
  gat:q.src=true→gat q.fa q.wt (q.cs.length+2) q.tx q.cs 0 ByteArray.empty 0=some (q.o,q.n)
  none:q.src=false→q.o=.fine ⟨#[]⟩∧q.n=0
def srcV (q:Gh) (bs:Nat):Value:=if q.src then .iface 84 (.pointer (some ⟨bs,0,none⟩)) else .nilIface
def evq (q:Gh):List Ev:=eventsS (outText q.o).data.toList
structure Base (w0:World) (aL aI:Addr) (m:Int):Prop where
  glob:Glob w0 aL aI
  max:w0.cell? ⟨6,0,none⟩=some (.int .i64 m)
theorem Base.lt {w0:World} {aL aI:Addr} {m:Int} (h:Base w0 aL aI m):6 < w0.heap.size∧1 < w0.heap.size∧2 < w0.heap.size:=⟨lt_cell h.max,lt_cell h.glob.long,lt_cell h.glob.idle⟩
theorem Base.to {w0 W:World} {aL aI:Addr} {m:Int} (h:Base w0 aL aI m) (hb:Below w0.heap.size w0 W):Base W aL aI m:=⟨h.glob.below hb,(hb.cell (p:=⟨6,0,none⟩) h.lt.1).trans h.max⟩
structure PaFresh (q:Gh) (bp bs:Nat) (O:Nat→Prop) (W:World):Prop where
  box:W.heap[bp]?=some (.cells #[srcV q bs,.bool false,.nilIface,.slice none 0 0,.int .i64 0,.map none] 132 (0,0))
  src:∃ cv,SrcAt bs q.tx cv q.fa q.wt 0 false W∧CutsOK bs cv q.cs W∧∀ g o l c,cv=.slice (some ⟨g,o,none⟩) l c→O g∧g ≠ bp
  ob:O bp
  os:O bs
  lt:∀ x,O x→x < W.heap.size
structure PaDone (aL aI:Addr) (q:Gh) (bp bs:Nat) (rem:List Ev) (O:Nat→Prop) (W:World):Prop where
  st:∃ S0 S k,EvS bp 3 S0 S k W∧remS S k=rem
  box:∃ c ev,W.heap[bp]?=some (.cells c 132 (0,0))∧c[0]?=some .nilIface∧c[1]?=some (.bool true)∧c[2]?=some ev∧ErrAt aL aI q.o ev O W
  src:∃ tx' cv' ov',SrcAt bs tx' cv' q.fa q.wt q.n ov' W
  own:∀ x,EvOwn bp 3 W x→O x
  os:O bs
  lt:∀ x,O x→x < W.heap.size
def PaAt (aL aI:Addr) (q:Gh) (bp bs:Nat) (st:Option (List Ev)) (O:Nat→Prop) (W:World):Prop :=
  match st with
  | none=>PaFresh q bp bs O W
  | some rem=>PaDone aL aI q bp bs rem O W
def leftOf (q:Gh) (st:Option (List Ev)):List Ev:=st.getD (evq q)
theorem PaAt.lt {aL aI:Addr} {q:Gh} {bp bs:Nat} {st:Option (List Ev)} {O:Nat→Prop} {W:World} (h:PaAt aL aI q bp bs st O W):∀ x,O x→x < W.heap.size:=by
  cases st with
  | none=>exact PaFresh.lt h
  | some rem=>exact PaDone.lt h
theorem PaAt.keep {aL aI:Addr} {q:Gh} {bp bs:Nat} {st:Option (List Ev)} {O:Nat→Prop} {W w':World} (h:PaAt aL aI q bp bs st O W) (hk:∀ x,O x→w'.heap[x]?=W.heap[x]?) (hz:W.heap.size≤w'.heap.size):PaAt aL aI q bp bs st O w':=by
  cases st with
  | none =>
    obtain ⟨h1,⟨cv,s1,s2,s3⟩,h3,h4,h5⟩:=(show PaFresh q bp bs O W from h)
    refine (show PaFresh q bp bs O w' from ⟨(hk bp h3).trans h1,⟨cv,(hk bs h4).trans s1,?_,s3⟩,h3,h4,fun x hx=>Nat.lt_of_lt_of_le (h5 x hx) hz⟩)
    obtain ⟨g,o,cap,hcv,a1,a2,a3,a4,a5⟩:=s2
    exact ⟨g,o,cap,hcv,a1,a2,a3,by omega,fun i c hi=>(World.cell?_of_block (hk g (s3 g o _ _ hcv).1):w'.cell? ⟨g,o+i,none⟩=W.cell? ⟨g,o+i,none⟩).trans (a5 i c hi)⟩
  | some rem =>
    obtain ⟨⟨S0,S,k,e1,e2⟩,⟨c,ev,b1,b2,b3,b4,b5⟩,⟨tx',cv',ov',s1⟩,h4,h5,h6⟩:=(show PaDone aL aI q bp bs rem O W from h)
    obtain ⟨k1,k2⟩:=e1.keep (w':=w') (fun x hx=>hk x (h4 x hx))
    exact (show PaDone aL aI q bp bs rem O w' from ⟨⟨S0,S,k,k1,e2⟩,⟨c,ev,(hk bp (h4 bp (Or.inl rfl))).trans b1,b2,b3,b4,b5.keep hk⟩,⟨tx',cv',ov',(hk bs h5).trans s1⟩,fun x hx=>h4 x (k2 x hx),h5,fun x hx=>Nat.lt_of_lt_of_le (h6 x hx) hz⟩)
theorem PaAt.below {aL aI:Addr} {q:Gh} {bp bs:Nat} {st:Option (List Ev)} {O:Nat→Prop} {W w':World} (h:PaAt aL aI q bp bs st O W) (hb:Below W.heap.size W w'):PaAt aL aI q bp bs st O w':=h.keep (fun x hx=>hb.block x (h.lt x hx)) hb.size
theorem PaAt.reads {aL aI:Addr} {q:Gh} {bp bs:Nat} {st:Option (List Ev)} {O:Nat→Prop} {W:World} (h:PaAt aL aI q bp bs st O W):W.cell? ⟨bs,4,none⟩=some (.int .i64 (if st.isSome then q.n else 0)):=by
  cases st with
  | none =>
    obtain ⟨cv,s1,_⟩:=(show PaFresh q bp bs O W from h).src
    exact s1.cells.2.2.2.2.1
  | some rem =>
    obtain ⟨tx',cv',ov',s1⟩:=(show PaDone aL aI q bp bs rem O W from h).src
    exact s1.cells.2.2.2.2.1
theorem EvS.typ {b o:Nat} {S0 S:List Stp} {k:Nat} {W:World} (h:EvS b o S0 S k W) {x:Nat} (hx:EvOwn b o W x):x=b∨(∃ es cl,W.heap[x]?=some (.map es cl))∨∃ cur T,W.heap[x]?=some (.cells cur T (0,0))∧(T=166∨T=92):=by
  obtain ⟨v,bm,es,clock,c,T,⟨a1,a2,a3,a4,a5⟩,_,hv,hm⟩:=h.box
  rcases hx with rfl | ⟨d,U,q1,q2⟩
  · exact Or.inl rfl
  · right
    rw [a1] at q1
    injection q1 with q1
    injection q1 with q1 _
    subst q1
    rcases q2 with ⟨u,q3,q4⟩ | ⟨bm',q3,q4⟩
    · rw [a2] at q3
      injection q3 with q3
      subst q3
      obtain ⟨cur,hc⟩:=hv.typ q4
      exact Or.inr ⟨cur,_,hc,Or.inl rfl⟩
    · rw [a4] at q3
      injection q3 with q3
      injection q3 with q3
      injection q3 with q3
      subst q3
      rcases q4 with rfl | ⟨es2,cl2,e,q5,q6,q7⟩
      · exact Or.inl ⟨_,_,a5⟩
      · rw [a5] at q5
        injection q5 with q5
        injection q5 with q5 _
        subst q5
        obtain ⟨t,x',y,_,_,h3⟩:=hm e q6
        obtain ⟨cur,hc⟩:=h3.typ q7
        exact Or.inr ⟨cur,_,hc,Or.inr rfl⟩
theorem EvS.off {b o:Nat} {S0 S:List Stp} {k:Nat} {W:World} (h:EvS b o S0 S k W) {x:Nat} {c d:Array Value} {T U:TypeId} (hb:W.heap[b]?=some (.cells d U (0,0))) (hx:W.heap[x]?=some (.cells c T (0,0))) (hT:T ≠ U∧T ≠ 166∧T ≠ 92):¬ EvOwn b o W x:=fun ho=>by
  rcases h.typ ho with rfl | ⟨es,cl,he⟩ | ⟨cur,T',he,hh⟩
  · rw [hb] at hx
    injection hx with hx
    injection hx with _ hx _
    exact hT.1 hx.symm
  · rw [hx] at he;cases he
  · rw [hx] at he
    injection he with he
    injection he with _ he _
    rcases hh with hh | hh
    · exact hT.2.1 (he.trans hh)
    · exact hT.2.2 (he.trans hh)
end Go.Proofs.YtljcljipppjnoaaGreatDoor
namespace Go.Proofs.YtljcljipppjnoaaGreatDoor
open Go.RowKit Go.Shelf
theorem src_gather {w0:World} {aL aI:Addr} {m:Int} (B:Base w0 aL aI m) {q:Gh} (hq:q.Ok) (bs:Nat) (W:World) (hW:Below w0.heap.size w0 W) (hbs:w0.heap.size≤bs) (cv:Value) (s1:SrcAt bs q.tx cv q.fa q.wt 0 false W) (s2:CutsOK bs cv q.cs W) :
    Calls Tryz.prog 77 #[srcV q bs] W fun e w'=>(∃ v,e=.returned (.tuple #[.string (outText q.o),v])∧ErrAt aL aI q.o v (fun x=>W.heap.size≤x∧x < w'.heap.size) w')∧(∃ tx' cv' ov',SrcAt bs tx' cv' q.fa q.wt q.n ov' w')∧Kept bs W w':=by
  have hl:=B.lt
  cases hs:q.src with
  | true =>
    have hg:=hq.gat hs
    have h1:=hq.small
    have h2:=hq.cuts
    have e:srcV q bs=.iface 84 (.pointer (some ⟨bs,0,none⟩)):=by unfold srcV;rw [hs];rfl
    rw [e]
    exact pgather_at bs (q.cs.length+2) q.tx cv q.cs q.fa q.wt q.o q.n aL aI W s1 s2 (by omega) (by omega) hg ⟨by omega,by omega⟩ (B.to hW).glob
  | false =>
    obtain ⟨h1,h2⟩:=hq.none hs
    have e:srcV q bs=.nilIface:=by unfold srcV;rw [hs];rfl
    rw [e,h1,h2]
    refine (pgather_nil W).mono ?_
    rintro e w' ⟨rfl,hb⟩
    exact ⟨⟨_,rfl,rfl⟩,⟨_,_,_,s1.below hb s1.lt⟩,Kept.of_below hb⟩
theorem ErrAt.forms {aL aI:Addr} {o:Out} {v:Value} {O:Nat→Prop} {W:World} (h:ErrAt aL aI o v O W):v=.nilIface∨∃ t a,v=.iface t (.pointer (some a)):=by
  cases o with
  | fine s=>exact Or.inl h
  | long=>exact Or.inr ⟨_,_,h⟩
  | idle=>exact Or.inr ⟨_,_,h⟩
  | fail k =>
    obtain ⟨gE,gO,h1,_⟩:=h
    exact Or.inr ⟨_,_,h1⟩
theorem cells6 {w:World} {b:Nat} {x y z u s t:Value} {T:TypeId} (h:w.heap[b]?=some (.cells #[x,y,z,u,s,t] T (0,0))):w.cell? ⟨b,0,none⟩=some x∧w.cell? ⟨b,1,none⟩=some y∧w.cell? ⟨b,2,none⟩=some z∧w.cell? ⟨b,3,none⟩=some u∧w.cell? ⟨b,4,none⟩=some s∧w.cell? ⟨b,5,none⟩=some t:=by
  refine ⟨?_,?_,?_,?_,?_,?_⟩ <;> (rw [Lib.cell_of_heap h];rfl)
theorem rem_events {t:List UInt8} {n:Nat} {S:List Stp} (h:SpOk 0 n S (blocksAt 3 (linesL [] t))):remS S 0=eventsS t:=by
  have hx:∀ p l,expX inX p l=expS p l:=by
    intro p l
    induction l generalizing p with
    | nil=>rfl
    | cons e r ih=>rw [expX,expS,ih];rfl
  rw [events_exp,← hx,h.exp]
  simp [remS]
theorem flat_mem {S:List Stp} {t:List UInt8} {x y:Nat} (h:Stp.leaf t x y ∈ S):(⟨8,false,0,t⟩:Ev) ∈ flat S:=by
  unfold flat
  exact List.mem_flatMap.2 ⟨_,h,by simp [evOf]⟩
theorem leaf_short {t:List UInt8} {n:Nat} {S:List Stp} (h:SpOk 0 n S (blocksAt 3 (linesL [] t))) {u:List UInt8} {x y:Nat} (hm:Stp.leaf u x y ∈ S):u.length≤2 * t.length+2:=by
  have h1:=flat_mem hm
  rw [h.flat] at h1
  have h2:=(blocksAt_text 3 (linesL [] t)).1 _ h1
  have h3:=tot_lines t
  simp only at h2
  omega
theorem outText_small {q:Gh} (hq:q.Ok):(outText q.o).data.toList.length≤1200:=by
  cases hs:q.src with
  | true =>
    have hg:=hq.gat hs
    cases ho:q.o with
    | fine s =>
      rw [ho] at hg
      have h1:=gat_size hg
      have h2:=reg_len s
      simp [outText]
      omega
    | long=>simp [outText]
    | idle=>simp [outText]
    | fail k=>simp [outText]
  | false =>
    obtain ⟨h1,_⟩:=hq.none hs
    rw [h1]
    have:(reg ⟨#[]⟩)=[]:=by decide
    simp [outText,this]
theorem EvS.begin {t:List UInt8} (ht:t.length≤1200) {n:Nat} {S:List Stp} (h:SpOk 0 n S (blocksAt 3 (linesL [] t))) {b bm:Nat} {v:Value} {B:Nat} {c:Array Value} {T:TypeId} {W:World} (hb:W.heap[b]?=some (.cells c T (0,0))) (c3:c[3]?=some v) (c4:c[3+1]?=some (.int .i64 (0:Nat))) (c5:c[3+2]?=some (.map (some bm))) (hT:T ≠ 166∧T ≠ 92) (hm:W.heap[bm]?=some (.map #[] 0)) (hv:W.ownsRow B 166 6 v S.length (stpCs S)):EvS b 3 S S 0 W:=by
  refine ⟨List.suffix_refl _,⟨n,h.spans⟩,fun u x y hu=>?_,fun u x y hu=>?_,⟨fun _ _ _=>rfl,fun _=>rfl,fun _ _ _ _ _=>Nat.zero_le _⟩,v,bm,#[],0,c,T,⟨hb,c3,c4,c5,hm⟩,hT,StpV.of_own hv,fun e he=>?_⟩
  · have:=leaf_short h hu
    omega
  · have h1:=leaf_short h hu
    have h2:=(inlF_facts (u.length+1)).1 u false
    show (inlineS u false).length≤_
    unfold inlineS
    omega
  · simp at he
set_option maxRecDepth 100000 in
set_option maxHeartbeats 2000000 in
theorem gather_fresh {w0:World} {aL aI:Addr} {m:Int} (B:Base w0 aL aI m) {q:Gh} (hq:q.Ok) {bp bs:Nat} {O:Nat→Prop} {W:World} (hW:Below w0.heap.size w0 W) (hlow:∀ x,O x→w0.heap.size≤x) (h:PaFresh q bp bs O W) :
    Calls Tryz.prog 67 #[.pointer (some ⟨bp,0,none⟩)] W fun e w'=>e=.returned (.tuple #[])∧∃ O',PaDone aL aI q bp bs (evq q) O' w'∧Fp O O' W w':=by
  obtain ⟨hbox,⟨cv,s1,s2,s3⟩,ob,os,lt⟩:=h
  have hl:=B.lt
  have lbp:=hlow bp ob
  have lbs:=hlow bs os
  have ltp:=lt bp ob
  have lts:=lt bs os
  have hne:bp ≠ bs:=fun e=>by
    have h1:W.heap[bs]?=_:=s1
    rw [← e,hbox] at h1
    injection h1 with h1
    injection h1 with _ h1 _
    exact absurd h1 (by decide)
  obtain ⟨W1,hW1⟩:∃ W1,W.setCell ⟨bp,1,none⟩ (.bool true)=W1:=⟨_,rfl⟩
  have x1:W1.heap[bp]?=some (.cells #[srcV q bs,.bool true,.nilIface,.slice none 0 0,.int .i64 0,.map none] 132 (0,0)):=by rw [← hW1];exact set_row hbox
  have z1:W1.heap.size=W.heap.size:=by rw [← hW1];simp
  have f1:∀ x,x ≠ bp→W1.heap[x]?=W.heap[x]?:=fun x hx=>by rw [← hW1];exact Below.heap_setCell _ _ _ _ hx
  have o1:W1.os=W.os∧W1.tape=W.tape∧W1.output=W.output:=by rw [← hW1];exact ⟨rfl,rfl,rfl⟩
  have hW1b:Below w0.heap.size w0 W1:=by rw [← hW1];exact hW.setCell (p:=⟨bp,1,none⟩) lbp _
  have s1':SrcAt bs q.tx cv q.fa q.wt 0 false W1:=(f1 bs (Ne.symm hne)).trans s1
  have s2':CutsOK bs cv q.cs W1:=by
    obtain ⟨g,o,cap,hcv,a1,a2,a3,a4,a5⟩:=s2
    exact ⟨g,o,cap,hcv,a1,a2,a3,by omega,fun i c hi=>(World.cell?_of_block (f1 g (s3 g o _ _ hcv).2):W1.cell? ⟨g,o+i,none⟩=W.cell? ⟨g,o+i,none⟩).trans (a5 i c hi)⟩
  have c1:=src_gather B hq bs W1 hW1b lbs cv s1' s2'
  have c2:Calls Tryz.prog 77 #[srcV q bs] (W.setCell ⟨bp,1,none⟩ (.bool true)) fun e w1=>∃ v,e=.returned (.tuple #[.string (outText q.o),v])∧w1.heap[bp]?=some (.cells #[srcV q bs,.bool true,.nilIface,.slice none 0 0,.int .i64 0,.map none] 132 (0,0))∧Hid (ErrAt aL aI q.o v (fun x=>W1.heap.size≤x∧x < w1.heap.size) w1∧(∃ tx' cv' ov',SrcAt bs tx' cv' q.fa q.wt q.n ov' w1)∧Kept bs W1 w1):=by
    rw [hW1]
    refine c1.mono ?_
    rintro e w1 ⟨⟨v,rfl,h1⟩,h2,h3⟩
    exact ⟨v,rfl,(h3.block bp (by omega) hne).trans x1,h1,h2,h3⟩
  have hts:=outText_small hq
  have c3:∀ w1 v,w1.heap[bp]?=some (.cells #[srcV q bs,.bool true,.nilIface,.slice none 0 0,.int .i64 0,.map none] 132 (0,0))→Kept bs W1 w1→Calls Tryz.prog 85 #[.string (outText q.o)] ((w1.setCell ⟨bp,0,none⟩ .nilIface).setCell ⟨bp,2,none⟩ v) fun e w2=>∃ p ln cp bm,e=.returned (.agg #[.slice p ln cp,.int .i64 0,.map (some bm)])∧w2.heap[bp]?=some (.cells #[.nilIface,.bool true,v,.slice none 0 0,.int .i64 0,.map none] 132 (0,0))∧Hid ((∃ S n,SpOk 0 n S (blocksAt 3 (linesL [] (outText q.o).data.toList))∧w2.ownsRow w1.heap.size 166 6 (.slice p ln cp) S.length (stpCs S))∧w2.heap[bm]?=some (.map #[] 0)∧w1.heap.size≤bm∧(∀ x,x < w1.heap.size→x ≠ bp→w2.heap[x]?=w1.heap[x]?)∧w1.heap.size≤w2.heap.size∧w2.os=w1.os∧w2.tape=w1.tape∧w2.output=w1.output):=by
    intro w1 v hb hk
    obtain ⟨W2,hW2⟩:∃ W2,(w1.setCell ⟨bp,0,none⟩ .nilIface).setCell ⟨bp,2,none⟩ v=W2:=⟨_,rfl⟩
    have y1:W2.heap[bp]?=some (.cells #[.nilIface,.bool true,v,.slice none 0 0,.int .i64 0,.map none] 132 (0,0)):=by
      rw [← hW2]
      have h1:(w1.setCell ⟨bp,0,none⟩ .nilIface).heap[bp]?=some (.cells #[.nilIface,.bool true,.nilIface,.slice none 0 0,.int .i64 0,.map none] 132 (0,0)):=set_row hb
      exact set_row h1
    have z2:W2.heap.size=w1.heap.size:=by rw [← hW2];simp
    have f2:∀ x,x ≠ bp→W2.heap[x]?=w1.heap[x]?:=fun x hx=>by rw [← hW2,Below.heap_setCell _ _ _ _ hx,Below.heap_setCell _ _ _ _ hx]
    have o2:W2.os=w1.os∧W2.tape=w1.tape∧W2.output=w1.output:=by rw [← hW2];exact ⟨rfl,rfl,rfl⟩
    have hk0:=hk.size
    have hmx:W2.cell? ⟨6,0,none⟩=some (.int .i64 m):=by
      have e1:W2.heap[6]?=w0.heap[6]?:=(f2 _ (by omega)).trans ((hk.block _ (by have:=hW1b.size;omega) (by omega)).trans (hW1b.block _ hl.1))
      exact (World.cell?_of_block e1:W2.cell? ⟨6,0,none⟩=w0.cell? ⟨6,0,none⟩).trans B.max
    have hc:=pOf_any (outText q.o).data.toList m W2 (by omega) hmx
    have et:(⟨(outText q.o).data.toList.toArray⟩:ByteArray)=outText q.o:=by simp
    rw [et] at hc
    rw [hW2]
    refine hc.mono ?_
    rintro e w2 ⟨u,bm,S,n,rfl,p1,p2,p3,p4,p5⟩
    rw [z2] at p2 p4
    obtain ⟨p,ln,cp,rfl⟩:∃ p ln cp,u=.slice p ln cp:=by
      rcases Joins.ownsRow_forms p2 with ⟨h,_⟩ | ⟨g',cap',h⟩
      · exact ⟨_,_,_,h⟩
      · exact ⟨_,_,_,h⟩
    have:=p5.size
    exact ⟨p,ln,cp,bm,rfl,(p5.block bp (by omega)).trans y1,⟨S,n,p1,p2⟩,p3,p4,fun x hx hxb=>(p5.block x (by omega)).trans (f2 x hxb),by omega,p5.os.trans o2.1,p5.tape.trans o2.2.1,p5.output.trans o2.2.2⟩
  obtain ⟨b0,b1,b2,b3,b4,b5⟩:=cells6 hbox
  have r1:=row_free (i:=1) hbox
  have FIN:Hid (∀ (w1:World) (v:Value) (w2:World) (p:Option Addr) (ln cp bm:Nat),(ErrAt aL aI q.o v (fun x=>W1.heap.size≤x∧x < w1.heap.size) w1∧(∃ tx' cv' ov',SrcAt bs tx' cv' q.fa q.wt q.n ov' w1)∧Kept bs W1 w1)→w2.heap[bp]?=some (.cells #[.nilIface,.bool true,v,.slice none 0 0,.int .i64 0,.map none] 132 (0,0))→((∃ S n,SpOk 0 n S (blocksAt 3 (linesL [] (outText q.o).data.toList))∧w2.ownsRow w1.heap.size 166 6 (.slice p ln cp) S.length (stpCs S))∧w2.heap[bm]?=some (.map #[] 0)∧w1.heap.size≤bm∧(∀ x,x < w1.heap.size→x ≠ bp→w2.heap[x]?=w1.heap[x]?)∧w1.heap.size≤w2.heap.size∧w2.os=w1.os∧w2.tape=w1.tape∧w2.output=w1.output) →
      ∃ O',PaDone aL aI q bp bs (evq q) O' (((w2.setCell ⟨bp,3,none⟩ (.slice p ln cp)).setCell ⟨bp,4,none⟩ (.int .i64 0)).setCell ⟨bp,5,none⟩ (.map (some bm)))∧Fp O O' W (((w2.setCell ⟨bp,3,none⟩ (.slice p ln cp)).setCell ⟨bp,4,none⟩ (.int .i64 0)).setCell ⟨bp,5,none⟩ (.map (some bm)))):=by
    rintro w1 v w2 p ln cp bm ⟨g1,⟨tx',cv',ov',g2⟩,g3⟩ hb ⟨⟨S,n,k1,k2⟩,k3,k4,k5,k6,k7,k8,k9⟩
    obtain ⟨X,hX⟩:∃ X,((w2.setCell ⟨bp,3,none⟩ (.slice p ln cp)).setCell ⟨bp,4,none⟩ (.int .i64 0)).setCell ⟨bp,5,none⟩ (.map (some bm))=X:=⟨_,rfl⟩
    have y1:X.heap[bp]?=some (.cells #[.nilIface,.bool true,v,.slice p ln cp,.int .i64 0,.map (some bm)] 132 (0,0)):=by
      rw [← hX]
      have h1:(w2.setCell ⟨bp,3,none⟩ (.slice p ln cp)).heap[bp]?=some (.cells #[.nilIface,.bool true,v,.slice p ln cp,.int .i64 0,.map none] 132 (0,0)):=set_row hb
      have h2:((w2.setCell ⟨bp,3,none⟩ (.slice p ln cp)).setCell ⟨bp,4,none⟩ (.int .i64 0)).heap[bp]?=some (.cells #[.nilIface,.bool true,v,.slice p ln cp,.int .i64 0,.map none] 132 (0,0)):=set_row h1
      exact set_row h2
    have zX:X.heap.size=w2.heap.size:=by rw [← hX];simp
    have fX:∀ x,x ≠ bp→X.heap[x]?=w2.heap[x]?:=fun x hx=>by rw [← hX,Below.heap_setCell _ _ _ _ hx,Below.heap_setCell _ _ _ _ hx,Below.heap_setCell _ _ _ _ hx]
    have oX:X.os=w2.os∧X.tape=w2.tape∧X.output=w2.output:=by rw [← hX];exact ⟨rfl,rfl,rfl⟩
    have g4:=g3.size
    rw [hX]
    have kX:X.ownsRow w1.heap.size 166 6 (.slice p ln cp) S.length (stpCs S):=by
      rw [← hX]
      exact ownsRow_setCell_below (ownsRow_setCell_below (ownsRow_setCell_below k2 (by show bp < _;omega) _) (by show bp < _;omega) _) (by show bp < _;omega) _
    have hst:EvS bp 3 S S 0 X:=EvS.begin hts k1 y1 rfl rfl rfl ⟨by decide,by decide⟩ ((fX bm (by omega)).trans k3) kX
    have fr:∀ x,x < w1.heap.size→x ≠ bp→X.heap[x]?=w1.heap[x]?:=fun x hx hxb=>(fX x hxb).trans (k5 x hx hxb)
    refine ⟨fun x=>O x∨(W.heap.size≤x∧x < X.heap.size),⟨⟨S,S,0,hst,rem_events k1⟩,⟨_,v,y1,rfl,rfl,rfl,(g1.keep (w':=X) fun x hx=>fr x hx.2 (by omega)).mono fun x hx=>Or.inr ⟨by omega,by omega⟩⟩,⟨tx',cv',ov',(fr bs (by omega) (Ne.symm hne)).trans g2⟩,fun x hx=>?_,Or.inl os,fun x hx=>?_⟩,⟨?_,?_,?_,by omega,fun x hx ho=>?_,fun x hx=>hx.imp id And.left⟩⟩
    · have hxl:=hst.lt hx
      rcases hx with rfl | ⟨d,U,q1,q2⟩
      · exact Or.inl ob
      · rw [y1] at q1
        injection q1 with q1
        injection q1 with q1 _
        subst q1
        rcases q2 with ⟨u,q3,q4⟩ | ⟨bm',q3,q4⟩
        · have q3:some (Value.slice p ln cp)=some u:=q3
          injection q3 with q3
          subst q3
          have:=(kX.lt x q4).1
          exact Or.inr ⟨by omega,hxl⟩
        · have q3:some (Value.map (some bm))=some (.map (some bm')):=q3
          injection q3 with q3
          injection q3 with q3
          injection q3 with q3
          subst q3
          rcases q4 with rfl | ⟨es,cl,e,q5,q6,q7⟩
          · exact Or.inr ⟨by omega,hxl⟩
          · rw [(fX bm (by omega)).trans k3] at q5
            injection q5 with q5
            injection q5 with q5 _
            subst q5
            simp at q6
    · rcases hx with hx | hx
      · have:=lt x hx
        omega
      · exact hx.2
    · exact oX.1.trans (k7.trans (g3.os.trans o1.1))
    · exact oX.2.1.trans (k8.trans (g3.tape.trans o1.2.1))
    · exact oX.2.2.trans (k9.trans (g3.output.trans o1.2.2))
    · have n1:x ≠ bp:=fun e=>ho (e ▸ ob)
      have n2:x ≠ bs:=fun e=>ho (e ▸ os)
      exact (fr x (by omega) n1).trans ((g3.block x (by omega) n2).trans (f1 x n1))
  obtain ⟨m0,m1,m2,m3,m4,m5⟩:=cells6 x1
  rw [hW1] at c2
  clear s1 s2 s3 s1' s2' c1 x1 f1 o1 hW1b hlow lt hq hW hl hts hbox
  generalize srcV q bs=sv at *
  generalize outText q.o=ot at *
  go_enter Tryz.func67,Tryz.ntmps67
  go_wp2_with (first
    | (go_at_call 77;refine c2.mono ?_;rintro e w1 ⟨v,rfl,hb,HF⟩;obtain ⟨d0,d1,d2,d3,d4,d5⟩:=cells6 hb;have r0:=row_free (i:=0) hb;have r2:=row_free (i:=2) hb;have c4:=c3 w1 v hb HF.out.2.2;rcases ErrAt.forms HF.out.1 with rfl | ⟨tt,a,rfl⟩)
    | (go_at_call 85;refine c4.mono ?_;rintro e w2 ⟨p,ln,cp,bm,rfl,hb2,HG⟩;obtain ⟨e0,e1,e2,e3,e4,e5⟩:=cells6 hb2;have t3:=row_free (i:=3) hb2;have t4:=row_free (i:=4) hb2;have t5:=row_free (i:=5) hb2))
  all_goals
    go_end0
    exact ⟨rfl,FIN.out w1 _ w2 p ln cp bm HF.out hb2 HG.out⟩
end Go.Proofs.YtljcljipppjnoaaGreatDoor
namespace Go.Proofs.YtljcljipppjnoaaGreatDoor
open Go.RowKit Go.Shelf
set_option maxRecDepth 100000 in
set_option maxHeartbeats 1000000 in
theorem gather_any {w0:World} {aL aI:Addr} {m:Int} (B:Base w0 aL aI m) {q:Gh} (hq:q.Ok) {bp bs:Nat} {st:Option (List Ev)} {O:Nat→Prop} {W:World} (hW:Below w0.heap.size w0 W) (hlow:∀ x,O x→w0.heap.size≤x) (h:PaAt aL aI q bp bs st O W) :
    Calls Tryz.prog 67 #[.pointer (some ⟨bp,0,none⟩)] W fun e w'=>e=.returned (.tuple #[])∧∃ O',PaDone aL aI q bp bs (leftOf q st) O' w'∧Fp O O' W w':=by
  cases st with
  | none=>exact gather_fresh B hq hW hlow h
  | some rem =>
    have h':PaDone aL aI q bp bs rem O W:=h
    obtain ⟨c,ev,hb,c0,c1,c2,_⟩:=h'.box
    have g1:=row_cell hb c1
    have H:Hid (PaDone aL aI q bp bs rem O W):=h'
    clear h h' hb c0 c1 c2
    go_enter Tryz.func67,Tryz.ntmps67
    go_wp2
    refine bodyPost_ret (results_none rfl _ _ _) rfl ?_
    exact ⟨rfl,O,H.out,Fp.refl O W⟩
def pulled (l:List Ev):Ev × Bool × List Ev :=
  match l with
  | []=>(⟨0,false,0,[]⟩,false,[])
  | e :: r=>(e,true,r)
theorem next_done {w0:World} {aL aI:Addr} {m:Int} (B:Base w0 aL aI m) {q:Gh} {bp bs:Nat} {rem:List Ev} {O:Nat→Prop} {W:World} (hW:Below w0.heap.size w0 W) (hlow:∀ x,O x→w0.heap.size≤x) (h:PaDone aL aI q bp bs rem O W) :
    Calls Tryz.prog 68 #[.pointer (some ⟨bp,3,none⟩)] W fun e w'=>e=.returned (.tuple #[evV (pulled rem).1,.bool (pulled rem).2.1])∧∃ O',PaDone aL aI q bp bs (pulled rem).2.2 O' w'∧Fp O O' W w':=by
  obtain ⟨⟨S0,S,k,hst,hrem⟩,⟨c,ev,b1,b2,b3,b4,b5⟩,⟨tx',cv',ov',s1⟩,h4,h5,h6⟩:=h
  have hl:=B.lt
  have hmo:¬ EvOwn bp 3 W 6:=fun ho=>by
    have:=hlow _ (h4 _ ho)
    omega
  refine (next_any bp 3 S0 S k m W hst hmo (B.to hW).max).mono ?_
  rintro e w' ⟨ev',ok,S',k',rfl,e1,e2,e3,e4⟩
  obtain ⟨c',d1,d2,d3⟩:=e3 c _ b1
  have hsrc:¬ EvOwn bp 3 W bs:=hst.off b1 s1 ⟨by decide,by decide,by decide⟩
  have herr:ErrAt aL aI q.o ev (fun x=>O x∨EvOwn bp 3 w' x) w':=by
    cases ho:q.o with
    | fine s=>rw [ho] at b5;exact b5
    | long=>rw [ho] at b5;exact b5
    | idle=>rw [ho] at b5;exact b5
    | fail n =>
      rw [ho] at b5
      obtain ⟨gE,gO,x1,x2,x3⟩:=b5
      exact ⟨gE,gO,x1,Or.inl x2,(e2.block gE (h6 gE x2) (hst.off b1 x3 ⟨by decide,by decide,by decide⟩)).trans x3⟩
  have hans:ev'=(pulled rem).1∧ok=(pulled rem).2.1∧remS S' k'=(pulled rem).2.2:=by
    rw [← hrem]
    rcases e4 with ⟨r1,r2⟩ | ⟨r1,r2,r3,r4⟩
    · rw [r2]
      exact ⟨rfl,r1,rfl⟩
    · rw [r3]
      exact ⟨r2,r1,r4⟩
  obtain ⟨a1,a2,a3⟩:=hans
  rw [a1,a2]
  refine ⟨rfl,fun x=>O x∨EvOwn bp 3 w' x,⟨⟨S0,S',k',e1,a3⟩,⟨c',ev,d1,(d3 0 (by decide) (by decide)).trans b2,(d3 1 (by decide) (by decide)).trans b3,(d3 2 (by decide) (by decide)).trans b4,herr⟩,⟨tx',cv',ov',(e2.block bs (h6 bs h5) hsrc).trans s1⟩,fun x hx=>Or.inr hx,Or.inl h5,fun x hx=>?_⟩,⟨e2.os,e2.tape,e2.output,e2.size,fun x hx ho=>e2.block x hx fun hh=>ho (h4 x hh),fun x hx=>?_⟩⟩
  · rcases hx with hx | hx
    · exact Nat.lt_of_lt_of_le (h6 x hx) e2.size
    · exact e1.lt hx
  · rcases hx with hx | hx
    · exact Or.inl hx
    · rcases Nat.lt_or_ge x W.heap.size with hl | hl
      · exact Or.inl (h4 x (e2.own x hl hx))
      · exact Or.inr hl
theorem PaDone.keep {aL aI:Addr} {q:Gh} {bp bs:Nat} {rem:List Ev} {O:Nat→Prop} {W w':World} (h:PaDone aL aI q bp bs rem O W) (hk:∀ x,O x→w'.heap[x]?=W.heap[x]?) (hz:W.heap.size≤w'.heap.size):PaDone aL aI q bp bs rem O w':=PaAt.keep (st:=some rem) h hk hz
set_option maxRecDepth 100000 in
set_option maxHeartbeats 1000000 in
theorem pnext_any {w0:World} {aL aI:Addr} {m:Int} (B:Base w0 aL aI m) {q:Gh} (hq:q.Ok) {bp bs:Nat} {st:Option (List Ev)} {O:Nat→Prop} {W:World} (hW:Below w0.heap.size w0 W) (hlow:∀ x,O x→w0.heap.size≤x) (h:PaAt aL aI q bp bs st O W) :
    Calls Tryz.prog 47 #[.pointer (some ⟨bp,0,none⟩)] W fun e w'=>e=.returned (.tuple #[evV (pulled (leftOf q st)).1,.bool (pulled (leftOf q st)).2.1])∧∃ O',PaDone aL aI q bp bs (pulled (leftOf q st)).2.2 O' w'∧Fp O O' W w':=by
  obtain ⟨W1,hW1⟩:∃ W1,W.alloc (.cells #[.int .i64 0,.bool false,.int .i64 0,.string ⟨#[]⟩] 92)=W1:=⟨_,rfl⟩
  have hb1:Below W.heap.size W W1:=by rw [← hW1];exact (Below.refl _ W).alloc (Nat.le_refl _) _
  have z1:W1.heap.size=W.heap.size+1:=by rw [← hW1];simp
  have x1:W1.heap[W.heap.size]?=some (.cells #[.int .i64 0,.bool false,.int .i64 0,.string ⟨#[]⟩] 92 (0,0)):=by rw [← hW1];exact heap_alloc_new W _
  have hWz:=hW.size
  have hw1:Below w0.heap.size w0 W1:=hW.trans (hb1.mono hWz)
  have c1:=gather_any B hq hw1 hlow (h.below hb1)
  have hlt:=h.lt
  generalize leftOf q st=rem at c1 ⊢
  have c2:∀ O1 w1,PaDone aL aI q bp bs rem O1 w1→Fp O O1 W1 w1→Calls Tryz.prog 68 #[.pointer (some ⟨bp,3,none⟩)] w1 fun e w2=>e=.returned (.tuple #[evV (pulled rem).1,.bool (pulled rem).2.1])∧w2.heap[W.heap.size]?=some (.cells #[.int .i64 0,.bool false,.int .i64 0,.string ⟨#[]⟩] 92 (0,0))∧Hid (∃ O',PaDone aL aI q bp bs (pulled rem).2.2 O' w2∧Fp O O' W w2∧¬ O' W.heap.size):=by
    intro O1 w1 hd hf
    refine (next_done B (hw1.trans (hf.under hw1.size hlow)) (hf.low hw1.size hlow) hd).mono ?_
    rintro e w2 ⟨rfl,O2,hd2,hf2⟩
    have hf3:=hf.trans hf2
    refine ⟨rfl,(hf3.block _ (by omega) fun ho=>?_).trans x1,O2,hd2,(Fp.below (O:=O) hb1).trans hf3,fun ho=>?_⟩
    · have:=hlt _ ho
      omega
    · rcases hf3.grow _ ho with h1 | h1
      · have:=hlt _ h1
        omega
      · omega
  clear h hlow hlt hW hWz hw1 B hb1 x1 z1
  rw [← hW1] at c1 c2
  clear hW1
  generalize pulled rem=pr at c2 ⊢
  obtain ⟨⟨ek,ef,el,et⟩,ok,rr⟩:=pr
  unfold evV at c2 ⊢
  simp only at c2 ⊢
  go_enter Tryz.func47,Tryz.ntmps47
  go_wp2_with (go_at_call 67;refine c1.mono ?_;rintro e w1 ⟨rfl,O1,hd,hf⟩)
  have c3:=c2 O1 w1 hd hf
  clear c1 c2 hd hf
  go_wp2_with (go_at_call 68;refine c3.mono ?_;rintro e w2 ⟨rfl,hres,HF⟩;obtain ⟨s0,s1,s2,s3⟩:=cells4 hres;have g0:=row_free (i:=0) hres;have g1:=row_free (i:=1) hres;have g2:=row_free (i:=2) hres;have g3:=row_free (i:=3) hres;have HR:Hid _:=hres;clear hres)
  obtain ⟨q1,q2,q3⟩:=four_set (x':=.int .i64 ek) (y':=.bool ef) (z':=.int .i64 el) (u':=.string ⟨et.toArray⟩) HR.out
  obtain ⟨p0,p1,p2,p3⟩:=cells4 q1
  obtain ⟨O2,hd,hf,hno⟩:=HF.out
  refine bodyPost_ret (v:=.tuple #[.agg #[.int .i64 ek,.bool ef,.int .i64 el,.string ⟨et.toArray⟩],.bool ok]) (by simp [results,Tryz.results47,go_sem,p0,p1,p2,p3]) rfl ⟨rfl,O2,hd.keep (fun x hx=>q2 x fun e=>hno (e ▸ hx)) (by omega),hf.past (Nat.le_refl _) q2 q3 rfl rfl rfl⟩
set_option maxRecDepth 100000 in
set_option maxHeartbeats 1000000 in
theorem perr_any {w0:World} {aL aI:Addr} {m:Int} (B:Base w0 aL aI m) {q:Gh} (hq:q.Ok) {bp bs:Nat} {st:Option (List Ev)} {O:Nat→Prop} {W:World} (hW:Below w0.heap.size w0 W) (hlow:∀ x,O x→w0.heap.size≤x) (h:PaAt aL aI q bp bs st O W) :
    Calls Tryz.prog 50 #[.pointer (some ⟨bp,0,none⟩)] W fun e w'=>∃ O' v,e=.returned v∧ErrAt aL aI q.o v O' w'∧PaDone aL aI q bp bs (leftOf q st) O' w'∧Fp O O' W w':=by
  have c1:=gather_any B hq hW hlow h
  have c2:Calls Tryz.prog 67 #[.pointer (some ⟨bp,0,none⟩)] W fun e w'=>e=.returned (.tuple #[])∧∃ v,w'.cell? ⟨bp,2,none⟩=some v∧Hid (∃ O',ErrAt aL aI q.o v O' w'∧PaDone aL aI q bp bs (leftOf q st) O' w'∧Fp O O' W w'):=by
    refine c1.mono ?_
    rintro e w' ⟨rfl,O',hd,hf⟩
    obtain ⟨c,ev,b1,b2,b3,b4,b5⟩:=hd.box
    exact ⟨rfl,ev,row_cell b1 b4,O',b5,hd,hf⟩
  clear c1 h hlow hW B hq
  go_enter Tryz.func50,Tryz.ntmps50
  go_wp2_with (go_at_call 67;refine c2.mono ?_;rintro e w1 ⟨rfl,v,hv,HF⟩)
  go_ret
  obtain ⟨O',h1,h2,h3⟩:=HF.out
  exact ⟨O',v,rfl,h1,h2,h3⟩
end Go.Proofs.YtljcljipppjnoaaGreatDoor
namespace Go.Proofs.YtljcljipppjnoaaGreatDoor
open Go.RowKit Go.Shelf
def AllAt (aL aI:Addr) (q:Gh) (bp bs br bt bl bn:Nat) (n:Int) (O OY:Nat→Prop) (W:World) (all:List Ev) (st:Option (List Ev)) (acc pend:List Ev) (sp:Bool) (wr:World):Prop :=
  ∃ O1 OY1,PaAt aL aI q bp bs st O1 wr∧YAt br bt bl bn acc sp n OY1 wr∧(∀ x,O1 x→¬ OY1 x)∧Fp (fun x=>O x∨OY x) (fun x=>O1 x∨OY1 x) W wr∧acc++(pend++leftOf q st)=all
theorem AllAt.below {aL aI:Addr} {q:Gh} {bp bs br bt bl bn:Nat} {n:Int} {O OY:Nat→Prop} {W:World} {all:List Ev} {st:Option (List Ev)} {acc pend:List Ev} {sp:Bool} {wr w':World} (h:AllAt aL aI q bp bs br bt bl bn n O OY W all st acc pend sp wr) (hb:Below wr.heap.size wr w'):AllAt aL aI q bp bs br bt bl bn n O OY W all st acc pend sp w':=by
  obtain ⟨O1,OY1,h1,h2,h3,h4,h5⟩:=h
  exact ⟨O1,OY1,h1.below hb,h2.keep (fun x hx=>hb.block x (h2.lt x hx)) hb.size,h3,h4.trans (Fp.below hb),h5⟩
theorem Fp.left {O O' P:Nat→Prop} {W w':World} (h:Fp O O' W w'):Fp (fun x=>O x∨P x) (fun x=>O' x∨P x) W w' :=
  ⟨h.os,h.tape,h.output,h.size,fun b hb ho=>h.block b hb fun h1=>ho (Or.inl h1),fun b ho=>by
    rcases ho with ho | ho
    · exact (h.grow b ho).imp Or.inl id
    · exact Or.inl (Or.inr ho)⟩
theorem Fp.right {O O' P:Nat→Prop} {W w':World} (h:Fp O O' W w'):Fp (fun x=>P x∨O x) (fun x=>P x∨O' x) W w' :=
  ⟨h.os,h.tape,h.output,h.size,fun b hb ho=>h.block b hb fun h1=>ho (Or.inr h1),fun b ho=>by
    rcases ho with ho | ho
    · exact Or.inl (Or.inl ho)
    · exact (h.grow b ho).imp Or.inr id⟩
theorem AllAt.next {w0:World} {aL aI:Addr} {m:Int} (B:Base w0 aL aI m) {q:Gh} (hq:q.Ok) {bp bs br bt bl bn:Nat} {n:Int} {O OY:Nat→Prop} {W:World} (hW:Below w0.heap.size w0 W) (hlow:∀ x,(O x∨OY x)→w0.heap.size≤x) {all:List Ev} {st:Option (List Ev)} {acc:List Ev} {wr:World} (h:AllAt aL aI q bp bs br bt bl bn n O OY W all st acc [] false wr) :
    Calls Tryz.prog 47 #[.pointer (some ⟨bp,0,none⟩)] wr fun e w'=>(leftOf q st=[]∧e=.returned (.tuple #[evV ⟨0,false,0,[]⟩,.bool false])∧AllAt aL aI q bp bs br bt bl bn n O OY W all (some []) acc [] false w')∨∃ ev r,leftOf q st=ev :: r∧e=.returned (.tuple #[evV ev,.bool true])∧AllAt aL aI q bp bs br bt bl bn n O OY W all (some r) acc [ev] false w':=by
  obtain ⟨O1,OY1,h1,h2,h3,h4,h5⟩:=h
  have hb:=hW.trans (h4.under hW.size hlow)
  have hl:=h4.low hW.size hlow
  refine (pnext_any B hq hb (fun x hx=>hl x (Or.inl hx)) h1).mono ?_
  rintro e w' ⟨rfl,O2,hd,hf⟩
  have y:=h2.keep (hf.other h3 h2.lt) hf.size
  have ap:=hf.apart h3 h2.lt
  have fp:=h4.trans hf.left
  cases hs:leftOf q st with
  | nil =>
    rw [hs] at hd h5
    exact Or.inl ⟨rfl,rfl,O2,OY1,hd,y,ap,fp,h5⟩
  | cons ev r =>
    rw [hs] at hd h5
    exact Or.inr ⟨ev,r,rfl,rfl,O2,OY1,hd,y,ap,fp,h5⟩
theorem AllAt.yield {aL aI:Addr} {q:Gh} {bp bs br bt bl bn:Nat} {n:Int} {O OY:Nat→Prop} {W:World} {all:List Ev} {st:Option (List Ev)} {acc:List Ev} {ev:Ev} {wr:World} (h:AllAt aL aI q bp bs br bt bl bn n O OY W all st acc [ev] false wr) (hlen:acc.length < 5000) :
    Calls Tryz.prog 72 #[evV ev,.pointer (some ⟨br,0,none⟩),.pointer (some ⟨bt,0,none⟩),.pointer (some ⟨bl,0,none⟩),.pointer (some ⟨bn,0,none⟩)] wr fun e w'=>e=.returned (.bool (!decide ((acc.length:Int)+1=n)))∧AllAt aL aI q bp bs br bt bl bn n O OY W all st (acc++[ev]) [] (decide ((acc.length:Int)+1=n)) w':=by
  obtain ⟨O1,OY1,h1,h2,h3,h4,h5⟩:=h
  refine (yield_any br bt bl bn acc ev n OY1 wr h2 hlen).mono ?_
  rintro e w' ⟨rfl,OY2,hy,hf⟩
  have h3':∀ x,OY1 x→¬ O1 x:=fun x a b=>h3 x b a
  have y:=h1.keep (hf.other h3' h1.lt) hf.size
  have ap:=hf.apart h3' h1.lt
  exact ⟨rfl,O1,OY2,y,hy,fun x a b=>ap x b a,h4.trans hf.right,by rw [List.append_assoc];exact h5⟩
theorem evq_len {q:Gh} (hq:q.Ok):(evq q).length≤4804:=by
  have h1:=outText_small hq
  have h2:=events_len (outText q.o).data.toList
  unfold evq
  omega
def yieldV (br bt bl bn:Nat):Value:=.func (.func 72) #[] #[.pointer (some ⟨br,0,none⟩),.pointer (some ⟨bt,0,none⟩),.pointer (some ⟨bl,0,none⟩),.pointer (some ⟨bn,0,none⟩)]
set_option maxRecDepth 100000 in
set_option maxHeartbeats 2000000 in
theorem all_walk {w0:World} {aL aI:Addr} {m:Int} (B:Base w0 aL aI m) {q:Gh} (hq:q.Ok) {bp bs br bt bl bn bb:Nat} {n:Int} {O OY:Nat→Prop} {W:World} (hW:Below w0.heap.size w0 W) (hlow:∀ x,(O x∨OY x)→w0.heap.size≤x) {all:List Ev} {st:Option (List Ev)} (hall:all.length≤4999) (h:AllAt aL aI q bp bs br bt bl bn n O OY W all st [] [] false W)
    (hbb:W.heap[bb]?=some (.cells #[.pointer (some ⟨bp,0,none⟩)] 86 (0,0))) (hno:¬ (O bb∨OY bb)) :
    Calls Tryz.prog 93 #[yieldV br bt bl bn,.pointer (some ⟨bb,0,none⟩)] W fun e w'=>e=.returned (.tuple #[])∧∃ acc r sp,AllAt aL aI q bp bs br bt bl bn n O OY W all (some r) acc [] sp w'∧((r=[]∧(n < 1∨(acc.length:Int) < n))∨((acc.length:Int)=n∧1≤n)):=by
  have hlt:=lt_of_block hbb
  have key:∀ st acc pend sp wr,AllAt aL aI q bp bs br bt bl bn n O OY W all st acc pend sp wr→wr.cell? ⟨bb,0,none⟩=some (.pointer (some ⟨bp,0,none⟩)):=fun st acc pend sp wr ⟨O1,OY1,h1,h2,h3,h4,h5⟩=>cell_of_one ((h4.block bb hlt hno).trans hbb)
  have cN:=fun st acc wr (h:AllAt aL aI q bp bs br bt bl bn n O OY W all st acc [] false wr)=>AllAt.next B hq hW hlow h
  have cY:=fun st acc ev wr (h:AllAt aL aI q bp bs br bt bl bn n O OY W all st acc [ev] false wr) (hl:acc.length < 5000)=>AllAt.yield h hl
  have ey:=enters_of Tryz.func72 (by kernel_rfl) rfl
  have hl:∀ st acc pend sp wr,AllAt aL aI q bp bs br bt bl bn n O OY W all st acc pend sp wr→acc.length+(pend.length+(leftOf q st).length)=all.length:=fun st acc pend sp wr ⟨O1,OY1,h1,h2,h3,h4,h5⟩=>by rw [← h5];simp
  have H0:Hid (AllAt aL aI q bp bs br bt bl bn n O OY W all st [] [] false W):=h
  have KEY:Hid _:=key
  have CN:Hid _:=cN
  have CY:Hid _:=cY
  have HL:Hid _:=hl
  unfold yieldV
  clear h hbb hno B hq hW hlow key cN cY hl hlt
  go_enter Tryz.func93,Tryz.ntmps93
  go_wp2
  go_loopg [] ((leftOf q st).length+1) (fun gk wr=>∃ (st1:Option (List Ev)) (acc:List Ev),(leftOf q st1).length < gk∧Hid (AllAt aL aI q bp bs br bt bl bn n O OY W all st1 acc [] false wr)∧Hid (n < 1∨(acc.length:Int) < n))
  case atStart =>
    refine ⟨st,[],Nat.lt_succ_self _,H0,?_⟩
    show n < 1∨_
    simp
    omega
  case round =>
    obtain ⟨st1,acc,hgk,HA,HN⟩:=hrel
    have kc:=KEY.out _ _ _ _ _ HA.out
    have hacc:acc.length < 5000:=by have:=HL.out _ _ _ _ _ HA.out;omega
    cases hs:leftOf q st1 with
    | nil =>
      have c1:Calls Tryz.prog 47 #[.pointer (some ⟨bp,0,none⟩)] wr fun e w'=>e=.returned (.tuple #[.agg #[.int .i64 0,.bool false,.int .i64 0,.string ⟨#[]⟩],.bool false])∧Hid (AllAt aL aI q bp bs br bt bl bn n O OY W all (some []) acc [] false w'):=by
        refine (CN.out _ _ _ HA.out).mono ?_
        rintro e w' (⟨h1,rfl,h3⟩ | ⟨ev,r,h1,_,_⟩)
        · exact ⟨rfl,h3⟩
        · rw [hs] at h1;cases h1
      go_wp2_with (go_at_call 47;refine c1.mono ?_;rintro e w1 ⟨rfl,HF⟩)
      refine bodyPost_ret (results_none rfl _ _ _) rfl ?_
      exact ⟨rfl,acc,[],false,HF.out.below ((Below.refl _ w1).alloc (Nat.le_refl _) _),Or.inl ⟨rfl,HN.out⟩⟩
    | cons ev r =>
      have c1:Calls Tryz.prog 47 #[.pointer (some ⟨bp,0,none⟩)] wr fun e w'=>e=.returned (.tuple #[.agg #[.int .i64 ev.kind,.bool ev.fin,.int .i64 ev.level,.string ⟨ev.text.toArray⟩],.bool true])∧Hid (AllAt aL aI q bp bs br bt bl bn n O OY W all (some r) acc [ev] false w'):=by
        refine (CN.out _ _ _ HA.out).mono ?_
        rintro e w' (⟨h1,_,_⟩ | ⟨ev',r',h1,rfl,h3⟩)
        · rw [hs] at h1;cases h1
        · rw [hs] at h1
          injection h1 with h1 h2
          subst h1
          subst h2
          exact ⟨rfl,h3⟩
      have c2:=fun w1 w2 (h:AllAt aL aI q bp bs br bt bl bn n O OY W all (some r) acc [ev] false w1) (hb:Below w1.heap.size w1 w2)=>CY.out (some r) acc ev w2 (h.below hb) hacc
      unfold evV at c2
      rw [hs,List.length_cons] at hgk
      obtain ⟨sp,hsp⟩:∃ sp,decide ((acc.length:Int)+1=n)=sp:=⟨_,rfl⟩
      rw [hsp] at c2
      have C2:Hid _:=c2
      have HS:Hid (decide ((acc.length:Int)+1=n)=sp):=hsp
      clear c2 hsp hs HA
      cases sp with
      | true =>
        go_wp2_with (first
          | (go_at_call 47;refine c1.mono ?_;rintro e w1 ⟨rfl,HF⟩)
          | (go_at_call 72;refine (C2.out w1 _ HF.out ((Below.refl _ w1).alloc (Nat.le_refl _) _)).mono ?_;rintro e w2 ⟨rfl,HG⟩))
        refine bodyPost_ret (results_none rfl _ _ _) rfl ?_
        exact ⟨rfl,acc++[ev],r,true,HG,Or.inr (by have:=of_decide_eq_true HS.out;rw [List.length_append,List.length_singleton];omega)⟩
      | false =>
        go_wp2_with (first
          | (go_at_call 47;refine c1.mono ?_;rintro e w1 ⟨rfl,HF⟩)
          | (go_at_call 72;refine (C2.out w1 _ HF.out ((Below.refl _ w1).alloc (Nat.le_refl _) _)).mono ?_;rintro e w2 ⟨rfl,HG0⟩;have HG:Hid _:=HG0;clear HG0))
        go_roundg (r.length+1)
        case measure=>omega
        case rel=>exact ⟨some r,acc++[ev],Nat.lt_succ_self _,HG,by
          have:=of_decide_eq_false HS.out
          have h2:=HN.out
          show n < 1∨_
          simp
          omega⟩
end Go.Proofs.YtljcljipppjnoaaGreatDoor
namespace Go.Proofs.YtljcljipppjnoaaGreatDoor
open Go.RowKit Go.Shelf
def QAt (aL aI:Addr) (q:Gh) (bq:Nat) (st:Option (List Ev)) (O:Nat→Prop) (W:World):Prop :=
  ∃ bp bs O1,W.heap[bq]?=some (.cells #[.pointer (some ⟨bp,0,none⟩),.pointer (some ⟨bs,0,none⟩)] 88 (0,0))∧PaAt aL aI q bp bs st O1 W∧¬ O1 bq∧O=fun x=>O1 x∨x=bq
theorem QAt.lt {aL aI:Addr} {q:Gh} {bq:Nat} {st:Option (List Ev)} {O:Nat→Prop} {W:World} (h:QAt aL aI q bq st O W):∀ x,O x→x < W.heap.size:=by
  obtain ⟨bp,bs,O1,h1,h2,h3,rfl⟩:=h
  intro x hx
  rcases hx with hx | rfl
  · exact h2.lt x hx
  · exact lt_of_block h1
theorem QAt.keep {aL aI:Addr} {q:Gh} {bq:Nat} {st:Option (List Ev)} {O:Nat→Prop} {W w':World} (h:QAt aL aI q bq st O W) (hk:∀ x,O x→w'.heap[x]?=W.heap[x]?) (hz:W.heap.size≤w'.heap.size):QAt aL aI q bq st O w':=by
  obtain ⟨bp,bs,O1,h1,h2,h3,rfl⟩:=h
  exact ⟨bp,bs,O1,(hk bq (Or.inr rfl)).trans h1,h2.keep (fun x hx=>hk x (Or.inl hx)) hz,h3,rfl⟩
theorem Fp.beside {O O':Nat→Prop} {W w':World} (h:Fp O O' W w') {b:Nat} (hb:b < W.heap.size) (hn:¬ O b):Fp (fun x=>O x∨x=b) (fun x=>O' x∨x=b) W w'∧¬ O' b∧w'.heap[b]?=W.heap[b]? :=
  ⟨h.left,fun ho=>by
    rcases h.grow b ho with h1 | h1
    · exact hn h1
    · omega,h.block b hb hn⟩
set_option maxRecDepth 100000 in
set_option maxHeartbeats 1000000 in
theorem new_any (v:Value) (hv:v=.nilIface∨∃ t a,v=.iface t (.pointer (some a))) (W:World) :
    Calls Tryz.prog 46 #[v] W fun e w'=>e=.returned (.pointer (some ⟨W.heap.size,0,none⟩))∧w'=W.alloc (.cells #[v,.bool false,.nilIface,.slice none 0 0,.int .i64 0,.map none] 132):=by
  rcases hv with rfl | ⟨t,a,rfl⟩
  · go_enter Tryz.func46,Tryz.ntmps46
    go_wp2
    go_ret
    exact ⟨rfl,rfl⟩
  · go_enter Tryz.func46,Tryz.ntmps46
    go_wp2
    go_ret
    exact ⟨rfl,rfl⟩
set_option maxRecDepth 100000 in
set_option maxHeartbeats 2000000 in
theorem qnew_any (aL aI:Addr) (q:Gh) (cv0:Value) (W:World) (h:NumsAt cv0 q.cs W) (hl:q.cs.length≤1048576) :
    Calls Tryz.prog 18 #[.agg #[.string q.tx,cv0,.int .i64 q.fa,.bool q.wt],.bool (!q.src)] W fun e w'=>∃ bq O,e=.returned (.pointer (some ⟨bq,0,none⟩))∧QAt aL aI q bq none O w'∧(∀ x,O x→W.heap.size≤x)∧Below W.heap.size W w':=by
  obtain ⟨ca,n0,cp,hcv⟩:∃ ca n0 cp,cv0=.slice ca n0 cp:=by
    rcases h with ⟨_,ca,cap,rfl⟩ | ⟨g,o,cap,rfl,_⟩
    · exact ⟨_,_,_,rfl⟩
    · exact ⟨_,_,_,rfl⟩
  subst hcv
  obtain ⟨W1,hW1⟩:∃ W1,W.alloc (.cells #[.string q.tx,.slice ca n0 cp,.int .i64 q.fa,.bool q.wt] 33)=W1:=⟨_,rfl⟩
  have hb1:Below W.heap.size W W1:=by rw [← hW1];exact (Below.refl _ W).alloc (Nat.le_refl _) _
  have z1:W1.heap.size=W.heap.size+1:=by rw [← hW1];simp
  have h1:NumsAt (.slice ca n0 cp) q.cs W1:=by
    rcases h with h | ⟨g,o,cap,h1,h2,h3⟩
    · exact Or.inl h
    · refine Or.inr ⟨g,o,cap,h1,by omega,fun j c hj=>?_⟩
      rw [← h3 j c hj]
      exact World.cell?_of_block (hb1.block g h2)
  have c1:=source_new q.tx (.slice ca n0 cp) q.cs q.fa q.wt W1 h1 hl
  have x1:W1.heap[W.heap.size]?=some (.cells #[.string q.tx,.slice ca n0 cp,.int .i64 q.fa,.bool q.wt] 33 (0,0)):=by rw [← hW1];exact heap_alloc_new W _
  obtain ⟨i0,i1,i2,i3⟩:=cells4 x1
  have c2:=fun v hv W=>new_any v hv W
  have FIN:Hid (∀ bs cv w1 w2,SrcAt bs q.tx cv q.fa q.wt 0 false w1→CutsOK bs cv q.cs w1→(∀ g o l c,cv=.slice (some ⟨g,o,none⟩) l c→W1.heap.size≤g∧g ≠ bs∧g < w1.heap.size)→W1.heap.size≤bs→Below W1.heap.size W1 w1→w2=((w1.alloc (.cells #[.pointer (some ⟨w1.heap.size+1,0,none⟩),.pointer (some ⟨bs,0,none⟩)] 88)).alloc (.cells #[srcV q bs,.bool false,.nilIface,.slice none 0 0,.int .i64 0,.map none] 132))→∃ O,QAt aL aI q w1.heap.size none O w2∧(∀ x,O x→W.heap.size≤x)∧Below W.heap.size W w2):=by
    intro bs cv w1 w2 s1 s2 s3 hbs b1 hw2
    have bz:=b1.size
    have hbl:=s1.lt
    have e1:w2.heap.size=w1.heap.size+2:=by rw [hw2];simp
    have hq:w2.heap[w1.heap.size]?=some (.cells #[.pointer (some ⟨w1.heap.size+1,0,none⟩),.pointer (some ⟨bs,0,none⟩)] 88 (0,0)):=by
      rw [hw2,Below.heap_alloc _ _ _ (by simp)]
      exact heap_alloc_new w1 _
    have hp:w2.heap[w1.heap.size+1]?=some (.cells #[srcV q bs,.bool false,.nilIface,.slice none 0 0,.int .i64 0,.map none] 132 (0,0)):=by
      rw [hw2]
      have:=heap_alloc_new (w1.alloc (.cells #[.pointer (some ⟨w1.heap.size+1,0,none⟩),.pointer (some ⟨bs,0,none⟩)] 88)) (.cells #[srcV q bs,.bool false,.nilIface,.slice none 0 0,.int .i64 0,.map none] 132)
      rw [World.size_alloc] at this
      exact this
    have hold:∀ x,x < w1.heap.size→w2.heap[x]?=w1.heap[x]?:=fun x hx=>by
      rw [hw2,Below.heap_alloc _ _ _ (by simp;omega),Below.heap_alloc _ _ _ hx]
    have hos:w2.os=w1.os∧w2.tape=w1.tape∧w2.output=w1.output:=by rw [hw2];exact ⟨rfl,rfl,rfl⟩
    obtain ⟨g,o,cap,hcv,a1,a2,a3,a4,a5⟩:=s2
    have hg:=s3 g o _ _ hcv
    refine ⟨fun x=>(x=w1.heap.size+1∨x=bs∨x=g)∨x=w1.heap.size,⟨w1.heap.size+1,bs,fun x=>x=w1.heap.size+1∨x=bs∨x=g,hq,(show PaFresh q _ bs _ w2 from ⟨hp,⟨cv,(hold bs hbl).trans s1,⟨g,o,cap,hcv,a1,a2,a3,by omega,fun i c hi=>(World.cell?_of_block (hold g a4):w2.cell? ⟨g,o+i,none⟩=w1.cell? ⟨g,o+i,none⟩).trans (a5 i c hi)⟩,fun g2 o2 l2 c2 he=>?_⟩,Or.inl rfl,Or.inr (Or.inl rfl),fun x hx=>by omega⟩),by omega,rfl⟩,fun x hx=>by omega,?_⟩
    · rw [hcv] at he
      injection he with he _ _
      injection he with he
      injection he with he _
      subst he
      exact ⟨Or.inr (Or.inr rfl),by omega⟩
    · have b2:Below W1.heap.size W1 w2:=⟨hos.1.trans b1.os,hos.2.1.trans b1.tape,hos.2.2.trans b1.output,by omega,fun x hx=>(hold x (by omega)).trans (b1.block x hx)⟩
      exact hb1.trans (b2.mono (by omega))
  unfold srcV at FIN
  clear h h1 hl hb1
  cases hs:q.src with
  | true =>
    rw [hs] at FIN
    simp only [if_true] at FIN
    go_enter Tryz.func18,Tryz.ntmps18
    go_wp2_with (first
      | (go_at_call 45;refine c1.mono ?_;rintro e w1 ⟨bs,cv,rfl,d1,d2,d3,d4,d5⟩)
      | (go_at_call 46;refine (c2 _ (Or.inr ⟨_,_,rfl⟩) _).mono ?_;rintro e w2 ⟨rfl,rfl⟩))
    go_ret
    obtain ⟨O,g1,g2,g3⟩:=FIN.out bs cv w1 _ d2 d3 d4 d1 d5 rfl
    exact ⟨_,O,rfl,g1,g2,g3⟩
  | false =>
    rw [hs] at FIN
    simp only [Bool.false_eq_true,if_false] at FIN
    go_enter Tryz.func18,Tryz.ntmps18
    go_wp2_with (first
      | (go_at_call 45;refine c1.mono ?_;rintro e w1 ⟨bs,cv,rfl,d1,d2,d3,d4,d5⟩)
      | (go_at_call 46;refine (c2 _ (Or.inl rfl) _).mono ?_;rintro e w2 ⟨rfl,rfl⟩))
    go_ret
    obtain ⟨O,g1,g2,g3⟩:=FIN.out bs cv w1 _ d2 d3 d4 d1 d5 rfl
    exact ⟨_,O,rfl,g1,g2,g3⟩
end Go.Proofs.YtljcljipppjnoaaGreatDoor
namespace Go.Proofs.YtljcljipppjnoaaGreatDoor
open Go.RowKit Go.Shelf
theorem Fp.newbox {O O':Nat→Prop} {W W1 w:World} (hb:Below W.heap.size W W1) (hlt:∀ x,O x→x < W.heap.size) (h:Fp O O' W1 w) {n:Nat} (hn:W.heap.size≤n) (hn1:n < W1.heap.size):Fp O O' W w∧¬ O' n∧w.heap[n]?=W1.heap[n]? :=
  ⟨(Fp.below (O:=O) hb).trans h,fun ho=>by
    rcases h.grow n ho with h1 | h1
    · have:=hlt n h1
      omega
    · omega,h.block n hn1 fun ho=>by have:=hlt n ho;omega⟩
set_option maxRecDepth 100000 in
set_option maxHeartbeats 2000000 in
theorem qnext_any {w0:World} {aL aI:Addr} {m:Int} (B:Base w0 aL aI m) {q:Gh} (hq:q.Ok) {bq:Nat} {st:Option (List Ev)} {O:Nat→Prop} {W:World} (hW:Below w0.heap.size w0 W) (hlow:∀ x,O x→w0.heap.size≤x) (h:QAt aL aI q bq st O W) :
    Calls Tryz.prog 19 #[.pointer (some ⟨bq,0,none⟩)] W fun e w'=>e=.returned (.tuple #[evV (pulled (leftOf q st)).1,.bool (pulled (leftOf q st)).2.1])∧∃ O',QAt aL aI q bq (some (pulled (leftOf q st)).2.2) O' w'∧Fp O O' W w':=by
  have hlt:=h.lt
  obtain ⟨bp,bs,O1,hb,hp,hno,rfl⟩:=h
  obtain ⟨W1,hW1⟩:∃ W1,W.alloc (.cells #[.int .i64 0,.bool false,.int .i64 0,.string ⟨#[]⟩] 39)=W1:=⟨_,rfl⟩
  have hb1:Below W.heap.size W W1:=by rw [← hW1];exact (Below.refl _ W).alloc (Nat.le_refl _) _
  have z1:W1.heap.size=W.heap.size+1:=by rw [← hW1];simp
  have x1:W1.heap[W.heap.size]?=some (.cells #[.int .i64 0,.bool false,.int .i64 0,.string ⟨#[]⟩] 39 (0,0)):=by rw [← hW1];exact heap_alloc_new W _
  have lq:=lt_of_block hb
  have hbq:=(hb1.block bq lq).trans hb
  have hw1:Below w0.heap.size w0 W1:=hW.trans (hb1.mono hW.size)
  have c1:Calls Tryz.prog 47 #[.pointer (some ⟨bp,0,none⟩)] W1 fun e w2=>e=.returned (.tuple #[evV (pulled (leftOf q st)).1,.bool (pulled (leftOf q st)).2.1])∧Hid (∀ X,Below w2.heap.size w2 X→X.heap[W.heap.size]?=some (.cells #[.int .i64 0,.bool false,.int .i64 0,.string ⟨#[]⟩] 39 (0,0))∧∀ x y z u,∃ O',QAt aL aI q bq (some (pulled (leftOf q st)).2.2) O' ((((X.setCell ⟨W.heap.size,0,none⟩ x).setCell ⟨W.heap.size,1,none⟩ y).setCell ⟨W.heap.size,2,none⟩ z).setCell ⟨W.heap.size,3,none⟩ u)∧Fp (fun x=>O1 x∨x=bq) O' W ((((X.setCell ⟨W.heap.size,0,none⟩ x).setCell ⟨W.heap.size,1,none⟩ y).setCell ⟨W.heap.size,2,none⟩ z).setCell ⟨W.heap.size,3,none⟩ u)):=by
    refine (pnext_any B hq hw1 (fun x hx=>hlow x (Or.inl hx)) (hp.below hb1)).mono ?_
    rintro e w2 ⟨rfl,O2,hd,hf⟩
    obtain ⟨f1,f2,f3⟩:=hf.beside (b:=bq) (by omega) hno
    refine ⟨rfl,fun X hX=>?_⟩
    have f4:=f1.trans (Fp.below (O:=fun x=>O2 x∨x=bq) hX)
    obtain ⟨g1,g2,g3⟩:=Fp.newbox hb1 hlt f4 (Nat.le_refl _) (by omega)
    have hres:=g3.trans x1
    refine ⟨hres,fun x y z u=>?_⟩
    obtain ⟨q1,q2,q3⟩:=four_set (x':=x) (y':=y) (z':=z) (u':=u) hres
    have hQ:QAt aL aI q bq (some (pulled (leftOf q st)).2.2) (fun x=>O2 x∨x=bq) X:=⟨bp,bs,O2,(hX.block bq (by have:=f1.size;omega)).trans (f3.trans hbq),hd.keep (fun x hx=>hX.block x (hd.lt x hx)) hX.size,f2,rfl⟩
    exact ⟨_,hQ.keep (fun x hx=>q2 x fun e=>g2 (e ▸ hx)) (by omega),g1.past (Nat.le_refl _) q2 q3 rfl rfl rfl⟩
  obtain ⟨k0,k1⟩:=cells2 hbq
  have hcE:=fun k l b t W=>pevent_any k l b t W
  clear hp hlow hW hb hbq hlt hno hw1 hb1
  generalize pulled (leftOf q st)=pr at c1 ⊢
  obtain ⟨⟨ek,ef,el,et⟩,ok,rr⟩:=pr
  unfold evV at c1 ⊢
  simp only at c1 ⊢
  go_enter Tryz.func19,Tryz.ntmps19
  go_wp2_with (first
    | (go_at_call 47;refine c1.mono ?_;rintro e w2 ⟨rfl,HF⟩)
    | (go_at_call 48;refine (hcE _ _ _ _ _).mono ?_;rintro e w3 ⟨rfl,b3⟩;have hX:Below w2.heap.size w2 w3:=((Below.refl _ w2).alloc (Nat.le_refl _) _).trans (b3.mono (by simp));have hres:=(HF.out w3 hX).1;obtain ⟨s0,s1,s2,s3⟩:=cells4 hres;have g0:=row_free (i:=0) hres;have g1:=row_free (i:=1) hres;have g2:=row_free (i:=2) hres;have g3:=row_free (i:=3) hres;have HR:Hid _:=hres;clear hres))
  obtain ⟨q1,q2,q3⟩:=four_set (x':=.int .i64 ek) (y':=.bool ef) (z':=.int .i64 el) (u':=.string ⟨et.toArray⟩) HR.out
  obtain ⟨p0,p1,p2,p3⟩:=cells4 q1
  exact bodyPost_ret (v:=.tuple #[.agg #[.int .i64 ek,.bool ef,.int .i64 el,.string ⟨et.toArray⟩],.bool ok]) (by simp [results,Tryz.results19,go_sem,p0,p1,p2,p3]) rfl ⟨rfl,(HF.out w3 hX).2 _ _ _ _⟩
set_option maxRecDepth 100000 in
set_option maxHeartbeats 1000000 in
theorem qreads_any {aL aI:Addr} {q:Gh} {bq:Nat} {st:Option (List Ev)} {O:Nat→Prop} {W:World} (h:QAt aL aI q bq st O W) :
    Calls Tryz.prog 22 #[.pointer (some ⟨bq,0,none⟩)] W fun e w'=>e=.returned (.int .i64 (if st.isSome then q.n else 0))∧w'=W:=by
  obtain ⟨bp,bs,O1,hb,hp,hno,rfl⟩:=h
  obtain ⟨k0,k1⟩:=cells2 hb
  have k2:=hp.reads
  generalize (if st.isSome then (q.n:Int) else 0)=rd at *
  clear hb hp hno
  go_enter Tryz.func22,Tryz.ntmps22
  go_wp2
  go_ret
  exact ⟨rfl,rfl⟩
set_option maxRecDepth 100000 in
set_option maxHeartbeats 2000000 in
theorem qerr_any {w0:World} {aL aI:Addr} {m:Int} (B:Base w0 aL aI m) {q:Gh} (hq:q.Ok) {bq:Nat} {st:Option (List Ev)} {O:Nat→Prop} {W:World} (hW:Below w0.heap.size w0 W) (hlow:∀ x,O x→w0.heap.size≤x) (h:QAt aL aI q bq st O W) :
    Calls Tryz.prog 20 #[.pointer (some ⟨bq,0,none⟩)] W fun e w'=>e=.returned (.tuple #[.agg #[.int .i64 (outErr q.o),.int .i64 (outN q.o)],.int .i64 q.n])∧∃ O',QAt aL aI q bq (some (leftOf q st)) O' w'∧Fp O O' W w':=by
  have hlt:=h.lt
  obtain ⟨bp,bs,O1,hb,hp,hno,rfl⟩:=h
  obtain ⟨W1,hW1⟩:∃ W1,W.alloc (.cells #[.int .i64 0,.int .i64 0] 43)=W1:=⟨_,rfl⟩
  have hb1:Below W.heap.size W W1:=by rw [← hW1];exact (Below.refl _ W).alloc (Nat.le_refl _) _
  have z1:W1.heap.size=W.heap.size+1:=by rw [← hW1];simp
  have x1:W1.heap[W.heap.size]?=some (.cells #[.int .i64 0,.int .i64 0] 43 (0,0)):=by rw [← hW1];exact heap_alloc_new W _
  have lq:=lt_of_block hb
  have hbq:=(hb1.block bq lq).trans hb
  have hw1:Below w0.heap.size w0 W1:=hW.trans (hb1.mono hW.size)
  obtain ⟨k0,k1⟩:=cells2 hbq
  have c1:Calls Tryz.prog 50 #[.pointer (some ⟨bp,0,none⟩)] W1 fun e w2=>∃ v,e=.returned v∧Calls Tryz.prog 49 #[v] w2 fun e w3=>e=.returned (.agg #[.int .i64 (outErr q.o),.int .i64 (outN q.o)])∧w3.cell? ⟨bq,1,none⟩=some (.pointer (some ⟨bs,0,none⟩))∧w3.cell? ⟨bs,4,none⟩=some (.int .i64 q.n)∧bq < w3.heap.size∧bs < w3.heap.size∧w3.heap[W.heap.size]?=some (.cells #[.int .i64 0,.int .i64 0] 43 (0,0))∧¬ bq=W.heap.size∧¬ bs=W.heap.size∧Hid (∀ X,Below w3.heap.size w3 X→X.heap[W.heap.size]?=some (.cells #[.int .i64 0,.int .i64 0] 43 (0,0))∧∀ x y,∃ O',QAt aL aI q bq (some (leftOf q st)) O' ((X.setCell ⟨W.heap.size,0,none⟩ x).setCell ⟨W.heap.size,1,none⟩ y)∧Fp (fun x=>O1 x∨x=bq) O' W ((X.setCell ⟨W.heap.size,0,none⟩ x).setCell ⟨W.heap.size,1,none⟩ y)):=by
    refine (perr_any B hq hw1 (fun x hx=>hlow x (Or.inl hx)) (hp.below hb1)).mono ?_
    rintro e w2 ⟨O2,v,rfl,he,hd,hf⟩
    have hw2:Below w0.heap.size w0 w2:=hw1.trans (hf.under hw1.size fun x hx=>hlow x (Or.inl hx))
    refine ⟨v,rfl,(he.told (B.to hw2).glob).mono ?_⟩
    rintro e w3 ⟨rfl,b3⟩
    obtain ⟨f1,f2,f3⟩:=hf.beside (b:=bq) (by omega) hno
    have sz:=f1.size
    have hq3:=(b3.block bq (by omega)).trans (f3.trans hbq)
    have hd3:PaDone aL aI q bp bs (leftOf q st) O2 w3:=hd.keep (fun x hx=>b3.block x (hd.lt x hx)) b3.size
    have f4:=f1.trans (Fp.below (O:=fun x=>O2 x∨x=bq) b3)
    have lbs:=hd3.lt bs hd3.os
    have hnb:¬ (O2 W.heap.size∨W.heap.size=bq):=(Fp.newbox hb1 hlt f4 (Nat.le_refl _) (by omega)).2.1
    refine ⟨rfl,(cells2 hq3).2,by have:=PaAt.reads (st:=some (leftOf q st)) hd3;simpa using this,lt_of_block hq3,lbs,(Fp.newbox hb1 hlt f4 (Nat.le_refl _) (by omega)).2.2.trans x1,fun e=>hnb (Or.inr e.symm),fun e=>hnb (Or.inl (e ▸ hd3.os)),fun X hX=>?_⟩
    have f5:=f4.trans (Fp.below (O:=fun x=>O2 x∨x=bq) hX)
    obtain ⟨g1,g2,g3⟩:=Fp.newbox hb1 hlt f5 (Nat.le_refl _) (by omega)
    have hres:=g3.trans x1
    refine ⟨hres,fun x y=>?_⟩
    have q2:∀ c,c ≠ W.heap.size→((X.setCell ⟨W.heap.size,0,none⟩ x).setCell ⟨W.heap.size,1,none⟩ y).heap[c]?=X.heap[c]?:=fun c hc=>by rw [Below.heap_setCell _ _ _ _ hc,Below.heap_setCell _ _ _ _ hc]
    have hQ:QAt aL aI q bq (some (leftOf q st)) (fun x=>O2 x∨x=bq) X:=⟨bp,bs,O2,(hX.block bq (lt_of_block hq3)).trans hq3,hd3.keep (fun x hx=>hX.block x (hd3.lt x hx)) hX.size,f2,rfl⟩
    exact ⟨_,hQ.keep (fun x hx=>q2 x fun e=>g2 (e ▸ hx)) (by simp),g1.past (Nat.le_refl _) q2 (by simp) rfl rfl rfl⟩
  clear hp hlow hW hb hbq hlt hno hw1 hb1 B hq
  generalize outErr q.o=oe at *
  generalize outN q.o=on at *
  go_enter Tryz.func20,Tryz.ntmps20
  go_wp2_with (first
    | (go_at_call 50;refine c1.mono ?_;rintro e w2 ⟨v,rfl,c2⟩)
    | (go_at_call 49;refine c2.mono ?_;rintro e w3 ⟨rfl,d0,d1,l0,l1,hres,n1,n2,HF⟩;obtain ⟨s0,s1⟩:=cells2 hres;have g0:=row_free (i:=0) hres;have g1:=row_free (i:=1) hres;have lw:=lt_of_block hres))
  obtain ⟨wd,hwd⟩:∃ wd,w3.alloc (.cells #[.int .i64 oe,.int .i64 on] 43)=wd:=⟨_,rfl⟩
  have hX:Below w3.heap.size w3 wd:=by rw [← hwd];exact (Below.refl _ w3).alloc (Nat.le_refl _) _
  have xt:wd.heap[w3.heap.size]?=some (.cells #[.int .i64 oe,.int .i64 on] 43 (0,0)):=by rw [← hwd];exact heap_alloc_new w3 _
  obtain ⟨t0,t1⟩:=cells2 xt
  have e0:=(hX.cell (p:=⟨bq,1,none⟩) l0).trans d0
  have e1:=(hX.cell (p:=⟨bs,4,none⟩) l1).trans d1
  have hres2:=(HF.out wd hX).1
  obtain ⟨r0,r1⟩:=cells2 hres2
  have g0':=row_free (i:=0) hres2
  have g1':=row_free (i:=1) hres2
  have HR:Hid _:=hres2
  have n3:¬ w3.heap.size=W.heap.size:=by omega
  have n4:¬ W.heap.size=w3.heap.size:=by omega
  have n5:¬ W.heap.size=bq:=fun e=>n1 e.symm
  have n6:¬ W.heap.size=bs:=fun e=>n2 e.symm
  rw [hwd]
  have HX:Hid (Below w3.heap.size w3 wd):=hX
  clear hwd hX xt hres hres2 s0 s1 g0 g1 c1 c2 d0 d1
  go_region_held3 (fun w'=>w'.cell? ⟨bq,1,none⟩=some (.pointer (some ⟨bs,0,none⟩))∧w'.cell? ⟨bs,4,none⟩=some (.int .i64 q.n)∧w'.cell? ⟨w3.heap.size,0,none⟩=some (.int .i64 oe)∧w'.cell? ⟨w3.heap.size,1,none⟩=some (.int .i64 on)) (first | go_keep | exact ⟨e0,e1,t0,t1⟩ | (simp [n1,n2,n3,n4,n5,n6];exact ⟨e0,e1,t0,t1⟩)) (fail)
  all_goals
    go_wp2
    have h1:(wd.setCell ⟨W.heap.size,0,none⟩ (.int .i64 oe)).heap[W.heap.size]?=some (.cells #[.int .i64 oe,.int .i64 0] 43 (0,0)):=set_row HR.out
    have h2:((wd.setCell ⟨W.heap.size,0,none⟩ (.int .i64 oe)).setCell ⟨W.heap.size,1,none⟩ (.int .i64 on)).heap[W.heap.size]?=some (.cells #[.int .i64 oe,.int .i64 on] 43 (0,0)):=set_row h1
    obtain ⟨y0,y1⟩:=cells2 h2
    obtain ⟨O',a,b⟩:=(HF.out wd HX.out).2 (.int .i64 oe) (.int .i64 on)
    generalize (wd.setCell ⟨W.heap.size,0,none⟩ (.int .i64 oe)).setCell ⟨W.heap.size,1,none⟩ (.int .i64 on)=Y at *
    exact bodyPost_ret (v:=.tuple #[.agg #[.int .i64 oe,.int .i64 on],.int .i64 q.n]) (by simp [results,Tryz.results20,go_sem,y0,y1]) rfl ⟨rfl,O',a.keep (fun _ _=>rfl) (Nat.le_refl _),⟨b.os,b.tape,b.output,b.size,b.block,b.grow⟩⟩
end Go.Proofs.YtljcljipppjnoaaGreatDoor
namespace Go.Proofs.YtljcljipppjnoaaGreatDoor
open Go.RowKit Go.Shelf
set_option maxRecDepth 100000 in
set_option maxHeartbeats 1000000 in
theorem pall_any (bp:Nat) (W:World) :
    Calls Tryz.prog 71 #[.pointer (some ⟨bp,0,none⟩)] W fun e w'=>e=.returned (.func (.func 93) #[] #[.pointer (some ⟨W.heap.size,0,none⟩)])∧w'=W.alloc (.cells #[.pointer (some ⟨bp,0,none⟩)] 86):=by
  have hmf:∀ (fn:Fn) (first cap:Array Value) (w:World),(Instr.makeFunc fn first cap).run Tryz.prog w=.ok (.func fn first cap) w:=fun _ _ _ _=>rfl
  go_enter Tryz.func71,Tryz.ntmps71
  go_wp2
  go_ret
  exact ⟨rfl,rfl⟩
theorem Tryz.seqNil (fn:Fn) (f c:Array Value) (w:World):(binOp .eql 145 (.func fn f c) .nilFunc).run Tryz.prog w=.ok (.bool false) w:=by kernel_rfl
set_option maxRecDepth 100000 in
set_option maxHeartbeats 2000000 in
theorem qall_any {w0:World} {aL aI:Addr} {m:Int} (B:Base w0 aL aI m) {q:Gh} (hq:q.Ok) {bq:Nat} {st:Option (List Ev)} {O:Nat→Prop} {W:World} (hW:Below w0.heap.size w0 W) (hlow:∀ x,O x→w0.heap.size≤x) (h:QAt aL aI q bq st O W) (n:Int) (hl:(leftOf q st).length≤4999) :
    Calls Tryz.prog 52 #[.pointer (some ⟨bq,0,none⟩),.int .i64 n] W fun e w'=>∃ v acc r O',e=.returned (.tuple #[v,.bool true])∧w'.ownsRow 0 39 4 v acc.length (evCs acc)∧QAt aL aI q bq (some r) O' w'∧Fp O O' W w'∧acc++r=leftOf q st∧((r=[]∧(n < 1∨(acc.length:Int) < n))∨((acc.length:Int)=n∧1≤n)):=by
  have hmf:∀ (fn:Fn) (first cap:Array Value) (w:World),(Instr.makeFunc fn first cap).run Tryz.prog w=.ok (.func fn first cap) w:=fun _ _ _ _=>rfl
  have hlt:=h.lt
  obtain ⟨bp,bs,O1,hb,hp,hno,rfl⟩:=h
  have lq:=lt_of_block hb
  obtain ⟨k0,k1⟩:=cells2 hb
  have c1:=fun W=>pall_any bp W
  have sn:=Tryz.seqNil
  have k3:(((W.alloc (.cells #[.int .i64 n] 3)).alloc (.cells #[.slice none 0 0] 22)).alloc (.cells #[.bool false] 4)).cell? ⟨bq,0,none⟩=some (.pointer (some ⟨bp,0,none⟩)):=by
    rw [← k0]
    exact World.cell?_of_block (by rw [Below.heap_alloc _ _ _ (by simp;omega),Below.heap_alloc _ _ _ (by simp;omega),Below.heap_alloc _ _ _ lq])
  obtain ⟨W5,hW5⟩:∃ W5,((((W.alloc (.cells #[.int .i64 n] 3)).alloc (.cells #[.slice none 0 0] 22)).alloc (.cells #[.bool true] 4)).alloc (.cells #[.pointer (some ⟨bp,0,none⟩)] 86)).alloc (.cells #[.bool false] 4)=W5:=⟨_,rfl⟩
  have hb5:Below W.heap.size W W5:=by
    rw [← hW5]
    exact (((((Below.refl _ W).alloc (Nat.le_refl _) _).alloc (by simp) _).alloc (by simp;omega) _).alloc (by simp;omega) _).alloc (by simp;omega) _
  have z5:W5.heap.size=W.heap.size+1+1+1+1+1:=by rw [← hW5];simp
  have y1:W5.heap[W.heap.size]?=some (.cells #[.int .i64 n] 3 (0,0)):=by
    rw [← hW5,Below.heap_alloc _ _ _ (by simp;omega),Below.heap_alloc _ _ _ (by simp;omega),Below.heap_alloc _ _ _ (by simp;omega),Below.heap_alloc _ _ _ (by simp)]
    exact heap_alloc_new W _
  have y2:W5.heap[W.heap.size+1]?=some (.cells #[.slice none 0 0] 22 (0,0)):=by
    rw [← hW5,Below.heap_alloc _ _ _ (by simp),Below.heap_alloc _ _ _ (by simp),Below.heap_alloc _ _ _ (by simp)]
    exact heap_new _ _ (by simp)
  have y3:W5.heap[W.heap.size+1+1]?=some (.cells #[.bool true] 4 (0,0)):=by
    rw [← hW5,Below.heap_alloc _ _ _ (by simp),Below.heap_alloc _ _ _ (by simp)]
    exact heap_new _ _ (by simp)
  have y4:W5.heap[W.heap.size+1+1+1]?=some (.cells #[.pointer (some ⟨bp,0,none⟩)] 86 (0,0)):=by
    rw [← hW5,Below.heap_alloc _ _ _ (by simp)]
    exact heap_new _ _ (by simp)
  have y5:W5.heap[W.heap.size+1+1+1+1]?=some (.cells #[.bool false] 4 (0,0)):=by
    rw [← hW5]
    exact heap_new _ _ (by simp)
  have hw5:Below w0.heap.size w0 W5:=hW.trans (hb5.mono hW.size)
  have h0:=hW.size
  have lt1:=fun x hx=>hlt x (Or.inl hx)
  have A0:AllAt aL aI q bp bs (W.heap.size+1+1) (W.heap.size+1+1+1+1) (W.heap.size+1) W.heap.size n O1 (fun x=>x=W.heap.size∨x=W.heap.size+1∨x=W.heap.size+1+1∨x=W.heap.size+1+1+1+1) W5 (leftOf q st) st [] [] false W5:=by
    refine ⟨O1,_,hp.below hb5,⟨y3,y5,y1,⟨_,y2,by simpa [evCs] using World.ownsRow_nil W5 0 39 4,fun x hx=>by cases hx⟩,⟨Or.inr (Or.inr (Or.inl rfl)),Or.inr (Or.inr (Or.inr rfl)),Or.inr (Or.inl rfl),Or.inl rfl⟩,by omega,fun x hx=>by omega⟩,fun x hx hy=>by have:=lt1 x hx;omega,Fp.refl _ _,by simp⟩
  have c2:=all_walk B hq hw5 (fun x hx=>by
    rcases hx with hx | hx
    · exact hlow x (Or.inl hx)
    · omega) hl A0 y4 (fun ho=>by
    rcases ho with ho | ho
    · have:=lt1 _ ho
      omega
    · omega)
  unfold yieldV at c2
  have c3:Calls Tryz.prog 93 #[.func (.func 72) #[] #[.pointer (some ⟨W.heap.size+1+1,0,none⟩),.pointer (some ⟨W.heap.size+1+1+1+1,0,none⟩),.pointer (some ⟨W.heap.size+1,0,none⟩),.pointer (some ⟨W.heap.size,0,none⟩)],.pointer (some ⟨W.heap.size+1+1+1,0,none⟩)] W5 fun e w'=>e=.returned (.tuple #[])∧∃ p ln cp,w'.heap[W.heap.size+1]?=some (.cells #[.slice p ln cp] 22 (0,0))∧w'.heap[W.heap.size+1+1]?=some (.cells #[.bool true] 4 (0,0))∧Hid (∀ X,(∀ x,x ≠ W.heap.size+1→x ≠ W.heap.size+1+1→X.heap[x]?=w'.heap[x]?)→X.heap.size=w'.heap.size→X.os=w'.os→X.tape=w'.tape→X.output=w'.output→∃ acc r O',X.ownsRow 0 39 4 (.slice p ln cp) acc.length (evCs acc)∧QAt aL aI q bq (some r) O' X∧Fp (fun x=>O1 x∨x=bq) O' W X∧acc++r=leftOf q st∧((r=[]∧(n < 1∨(acc.length:Int) < n))∨((acc.length:Int)=n∧1≤n))):=by
    refine c2.mono ?_
    rintro e w' ⟨rfl,acc,r,sp,⟨O2,OY2,a1,a2,a3,a4,a5⟩,a6⟩
    obtain ⟨v,l1,l2,l3⟩:=a2.lst
    obtain ⟨p,ln,cp,rfl⟩:∃ p ln cp,v=.slice p ln cp:=by
      rcases Joins.ownsRow_forms l2 with ⟨h,_⟩ | ⟨g',cap',h⟩
      · exact ⟨_,_,_,h⟩
      · exact ⟨_,_,_,h⟩
    refine ⟨rfl,p,ln,cp,l1,a2.right,fun X fX zX x1 x2 x3=>?_⟩
    have sz:=a4.size
    have hno2:¬ O2 bq:=fun ho=>by
      rcases a4.grow bq (Or.inl ho) with (h1 | h1) | h1
      · exact hno h1
      · omega
      · omega
    have hq5:w'.heap[bq]?=W.heap[bq]?:=(a4.block bq (by omega) fun ho=>by
      rcases ho with h1 | h1
      · exact hno h1
      · omega).trans (hb5.block bq lq)
    have ownX:X.ownsRow 0 39 4 (.slice p ln cp) acc.length (evCs acc):=by
      refine ⟨l2.1,?_⟩
      rcases l2.2 with h1 | ⟨g,cap,cur,hv,hg,hh,rr⟩
      · exact Or.inl h1
      · refine Or.inr ⟨g,cap,cur,hv,hg,(fX g (fun e=>?_) (fun e=>?_)).trans hh,rr⟩
        · rw [e,l1] at hh
          injection hh with hh
          injection hh with _ hh _
          exact absurd hh (by decide)
        · rw [e,a2.right] at hh
          injection hh with hh
          injection hh with _ hh _
          exact absurd hh (by decide)
    have hO:∀ x,O2 x∨x=bq→X.heap[x]?=w'.heap[x]?:=fun x hx=>by
      rcases hx with hx | rfl
      · exact fX x (fun e=>a3 x hx (e ▸ a2.own.2.2.1)) (fun e=>a3 x hx (e ▸ a2.own.1))
      · exact fX x (by omega) (by omega)
    refine ⟨acc,r,fun x=>O2 x∨x=bq,ownX,⟨bp,bs,O2,(hO bq (Or.inr rfl)).trans (hq5.trans hb),a1.keep (fun x hx=>hO x (Or.inl hx)) (by omega),hno2,rfl⟩,⟨x1.trans (a4.os.trans hb5.os),x2.trans (a4.tape.trans hb5.tape),x3.trans (a4.output.trans hb5.output),by omega,fun x hx ho=>?_,fun x hx=>?_⟩,a5,a6⟩
    · exact (fX x (by omega) (by omega)).trans ((a4.block x (by omega) fun h1=>by
        rcases h1 with h1 | h1
        · exact ho (Or.inl h1)
        · omega).trans (hb5.block x hx))
    · rcases hx with hx | rfl
      · rcases a4.grow x (Or.inl hx) with (h1 | h1) | h1
        · exact Or.inl (Or.inl h1)
        · exact Or.inr (by omega)
        · exact Or.inr (by omega)
      · exact Or.inl (Or.inr rfl)
  rw [← hW5] at c3
  clear c2 A0 hw5 y1 y2 y3 y4 y5 hb5 z5 hlow hlt hW hp hno hb B hq hl lt1 hW5
  go_enter Tryz.func52,Tryz.ntmps52
  go_wp2_with (first
    | (go_at_call 71;refine (c1 _).mono ?_;rintro e w2 ⟨rfl,rfl⟩)
    | (go_at_call 93;refine c3.mono ?_;rintro e w3 ⟨rfl,p,ln,cp,d1,d2,HF⟩;have e1:=cell_of_one d1;have e2:=cell_of_one d2;have f1:=row_free (i:=0) d1;have f2:=row_free (i:=0) d2))
  have hn1:¬ W.heap.size+1+1=W.heap.size+1:=by omega
  have HD:Hid _:=And.intro d1 d2
  clear d1 d2 c1 c3
  go_region
  all_goals
    go_wp2
    have x1:(w3.setCell ⟨W.heap.size+1,0,none⟩ (.slice p ln cp)).heap[W.heap.size+1]?=some (.cells #[.slice p ln cp] 22 (0,0)):=set_row HD.out.1
    have x2:((w3.setCell ⟨W.heap.size+1,0,none⟩ (.slice p ln cp)).setCell ⟨W.heap.size+1+1,0,none⟩ (.bool true)).heap[W.heap.size+1]?=some (.cells #[.slice p ln cp] 22 (0,0)):=by rw [Below.heap_setCell _ _ _ _ (by show _ ≠ W.heap.size+1+1;omega)];exact x1
    have x3:(w3.setCell ⟨W.heap.size+1,0,none⟩ (.slice p ln cp)).heap[W.heap.size+1+1]?=some (.cells #[.bool true] 4 (0,0)):=by rw [Below.heap_setCell _ _ _ _ (by show _ ≠ W.heap.size+1;omega)];exact HD.out.2
    have x4:((w3.setCell ⟨W.heap.size+1,0,none⟩ (.slice p ln cp)).setCell ⟨W.heap.size+1+1,0,none⟩ (.bool true)).heap[W.heap.size+1+1]?=some (.cells #[.bool true] 4 (0,0)):=set_row x3
    have k4:=cell_of_one x2
    have k5:=cell_of_one x4
    obtain ⟨acc,r,O',r1,r2,r3,r4,r5⟩:=HF.out (((w3.setCell ⟨W.heap.size+1,0,none⟩ (.slice p ln cp)).setCell ⟨W.heap.size+1+1,0,none⟩ (.bool true)).drew) (fun x a b=>by
      show ((w3.setCell ⟨W.heap.size+1,0,none⟩ (.slice p ln cp)).setCell ⟨W.heap.size+1+1,0,none⟩ (.bool true)).heap[x]?=_
      rw [Below.heap_setCell _ _ _ _ b,Below.heap_setCell _ _ _ _ a]) (by show ((w3.setCell ⟨W.heap.size+1,0,none⟩ (.slice p ln cp)).setCell ⟨W.heap.size+1+1,0,none⟩ (.bool true)).heap.size=_;simp) rfl rfl rfl
    generalize (w3.setCell ⟨W.heap.size+1,0,none⟩ (.slice p ln cp)).setCell ⟨W.heap.size+1+1,0,none⟩ (.bool true)=Y at *
    exact bodyPost_ret (v:=.tuple #[.slice p ln cp,.bool true]) (by simp [results,Tryz.results52,go_sem,k4,k5]) rfl ⟨_,acc,r,O',rfl,r1,r2,r3,r4,r5⟩
end Go.Proofs.YtljcljipppjnoaaGreatDoor
namespace Go.Proofs.YtljcljipppjnoaaGreatDoor
open Go.RowKit Go.Shelf
theorem events_nil:eventsS []=[]:=by simp [eventsS,linesL,blocksAt,blocksF,evUpto]
theorem evq_err {q:Gh} (h:outErr q.o ≠ 0):evq q=[]:=by
  unfold evq
  cases ho:q.o with
  | fine s=>rw [ho] at h;exact absurd rfl h
  | long=>exact events_nil
  | idle=>exact events_nil
  | fail k=>exact events_nil
def LV (v:Value) (l:List Ev) (W:World):Prop :=
  ∃ p cap,v=.slice p l.length cap∧l.length≤cap∧cap≤9223372036854775807∧((p=none∧cap=0)∨∃ g o,p=some ⟨g,o,none⟩∧g < W.heap.size∧∀ j u,(evCs l)[j]?=some u→W.cell? ⟨g,o+j,none⟩=some u)
theorem LV.keep {v:Value} {l:List Ev} {W w':World} (h:LV v l W) (hk:∀ g,v.ownBlock=some g→w'.heap[g]?=W.heap[g]?) (hz:W.heap.size≤w'.heap.size):LV v l w':=by
  obtain ⟨p,cap,hv,h1,h2,h3⟩:=h
  refine ⟨p,cap,hv,h1,h2,?_⟩
  rcases h3 with h3 | ⟨g,o,h4,h5,h6⟩
  · exact Or.inl h3
  · refine Or.inr ⟨g,o,h4,by omega,fun j u hj=>?_⟩
    rw [← h6 j u hj]
    exact World.cell?_of_block (hk g (by rw [hv,h4];rfl))
theorem LV.lt {v:Value} {l:List Ev} {W:World} (h:LV v l W) {g:Nat} (hg:v.ownBlock=some g):g < W.heap.size:=by
  obtain ⟨p,cap,hv,h1,h2,h3⟩:=h
  rcases h3 with ⟨h3,_⟩ | ⟨g',o,h4,h5,h6⟩
  · rw [hv,h3] at hg;cases hg
  · rw [hv,h4] at hg
    injection hg with hg
    have hg:g'=g:=hg
    omega
theorem LV.of_own {B:Nat} {v:Value} {l:List Ev} {W:World} (h:W.ownsRow B 83 4 v l.length (evCs l)):LV v l W:=by
  rcases h.2 with ⟨hv,h0⟩ | ⟨g,cap,cur,hv,_,hg,hnc,hcm,_⟩
  · exact ⟨none,0,by rw [hv,h0],by omega,by omega,Or.inl ⟨rfl,rfl⟩⟩
  · refine ⟨_,cap,hv,hnc,by simp only [maxLen] at hcm;omega,Or.inr ⟨g,0,rfl,lt_of_block hg,fun j u hj=>?_⟩⟩
    have:=h.cells (g:=g) (by rw [hv];rfl) j u hj
    rw [Addr.add_lit] at this
    exact this
theorem LV.nil (W:World):LV (.slice none 0 0) [] W:=⟨none,0,rfl,Nat.le_refl _,by omega,Or.inl ⟨rfl,rfl⟩⟩
def SAt (aL aI:Addr) (q:Gh) (bd:Nat) (st:Option (List Ev)) (O:Nat→Prop) (W:World):Prop :=
  ∃ bq v O1,W.heap[bd]?=some (.cells #[.pointer (some ⟨bq,0,none⟩),.string (outText q.o),.int .i64 (outErr q.o),.int .i64 (outN q.o),.int .i64 q.n,v,.bool false] 51 (0,0))∧QAt aL aI q bq st O1 W∧LV v (leftOf q st) W∧¬ O1 bd∧(∀ g,v.ownBlock=some g→¬ O1 g∧g ≠ bd)∧O=fun x=>O1 x∨x=bd∨v.ownBlock=some x
theorem SAt.lt {aL aI:Addr} {q:Gh} {bd:Nat} {st:Option (List Ev)} {O:Nat→Prop} {W:World} (h:SAt aL aI q bd st O W):∀ x,O x→x < W.heap.size:=by
  obtain ⟨bq,v,O1,h1,h2,h3,h4,h5,rfl⟩:=h
  intro x hx
  rcases hx with hx | rfl | hx
  · exact h2.lt x hx
  · exact lt_of_block h1
  · exact h3.lt hx
theorem SAt.keep {aL aI:Addr} {q:Gh} {bd:Nat} {st:Option (List Ev)} {O:Nat→Prop} {W w':World} (h:SAt aL aI q bd st O W) (hk:∀ x,O x→w'.heap[x]?=W.heap[x]?) (hz:W.heap.size≤w'.heap.size):SAt aL aI q bd st O w':=by
  obtain ⟨bq,v,O1,h1,h2,h3,h4,h5,rfl⟩:=h
  exact ⟨bq,v,O1,(hk bd (Or.inr (Or.inl rfl))).trans h1,h2.keep (fun x hx=>hk x (Or.inl hx)) hz,h3.keep (fun g hg=>hk g (Or.inr (Or.inr hg))) hz,h4,h5,rfl⟩
theorem cells7 {w:World} {b:Nat} {x y z u s t r:Value} {T:TypeId} (h:w.heap[b]?=some (.cells #[x,y,z,u,s,t,r] T (0,0))):w.cell? ⟨b,0,none⟩=some x∧w.cell? ⟨b,1,none⟩=some y∧w.cell? ⟨b,2,none⟩=some z∧w.cell? ⟨b,3,none⟩=some u∧w.cell? ⟨b,4,none⟩=some s∧w.cell? ⟨b,5,none⟩=some t∧w.cell? ⟨b,6,none⟩=some r:=by
  refine ⟨?_,?_,?_,?_,?_,?_,?_⟩ <;> (rw [Lib.cell_of_heap h];rfl)
set_option maxRecDepth 100000 in
set_option maxHeartbeats 2000000 in
theorem side_any (aL aI:Addr) (q:Gh) (hq:q.Ok) (hs:q.src=true) (cv0:Value) (W:World) (h:NumsAt cv0 q.cs W) :
    Calls Tryz.prog 21 #[.agg #[.string q.tx,cv0,.int .i64 q.fa,.bool q.wt]] W fun e w'=>∃ bd O,e=.returned (.pointer (some ⟨bd,0,none⟩))∧SAt aL aI q bd none O w'∧(∀ x,O x→W.heap.size≤x)∧Below W.heap.size W w':=by
  obtain ⟨ca,n0,cp,hcv⟩:∃ ca n0 cp,cv0=.slice ca n0 cp:=by
    rcases h with ⟨_,ca,cap,rfl⟩ | ⟨g,o,cap,rfl,_⟩
    · exact ⟨_,_,_,rfl⟩
    · exact ⟨_,_,_,rfl⟩
  subst hcv
  obtain ⟨W1,hW1⟩:∃ W1,W.alloc (.cells #[.string q.tx,.slice ca n0 cp,.int .i64 q.fa,.bool q.wt] 33)=W1:=⟨_,rfl⟩
  have hb1:Below W.heap.size W W1:=by rw [← hW1];exact (Below.refl _ W).alloc (Nat.le_refl _) _
  have z1:W1.heap.size=W.heap.size+1:=by rw [← hW1];simp
  have x1:W1.heap[W.heap.size]?=some (.cells #[.string q.tx,.slice ca n0 cp,.int .i64 q.fa,.bool q.wt] 33 (0,0)):=by rw [← hW1];exact heap_alloc_new W _
  obtain ⟨i0,i1,i2,i3⟩:=cells4 x1
  have h1:NumsAt (.slice ca n0 cp) q.cs W1:=h.below hb1
  have hg:=hq.gat hs
  have hsm:=hq.small
  have hcu:=hq.cuts
  have c1:=come_any (q.cs.length+2) q.tx (.slice ca n0 cp) q.cs q.fa q.wt q.o q.n W1 h1 hcu hsm (by omega) hg
  have c2:=fun W (h:NumsAt (.slice ca n0 cp) q.cs W)=>qnew_any aL aI q (.slice ca n0 cp) W h hcu
  rw [hs] at c2
  have ht:=outText_small hq
  have et:(⟨(outText q.o).data.toList.toArray⟩:ByteArray)=outText q.o:=by simp
  have c3:∀ W,Calls Tryz.prog 51 #[.string (outText q.o)] W fun e w'=>∃ p ln cp,e=.returned (.slice p ln cp)∧w'.ownsRow W.heap.size 83 4 (.slice p ln cp) (evq q).length (evCs (evq q))∧Below W.heap.size W w':=by
    intro W
    have hc:=revents_any (outText q.o).data.toList W (by omega)
    rw [et] at hc
    refine hc.mono ?_
    rintro e w' ⟨v,rfl,own,b⟩
    obtain ⟨p,ln,cp,rfl⟩:∃ p ln cp,v=.slice p ln cp:=by
      rcases Joins.ownsRow_forms own with ⟨h,_⟩ | ⟨g',cap',h⟩
      · exact ⟨_,_,_,h⟩
      · exact ⟨_,_,_,h⟩
    exact ⟨p,ln,cp,rfl,own,b⟩
  have NB:Hid (∀ w,Below W1.heap.size W1 w→NumsAt (.slice ca n0 cp) q.cs w):=fun w hb=>h1.below hb
  have HB1:Hid (Below W.heap.size W W1):=hb1
  -- the side as it is at last,l not laid yet,or laid
  have FIN:Hid (∀ (w2 w4 X:World) (bq:Nat) (O1:Nat→Prop) (v:Value),Below W1.heap.size W1 w2→QAt aL aI q bq none O1 w4→(∀ x,O1 x→w2.heap.size+1≤x)→w2.heap.size+1≤w4.heap.size→(∀ x,x < w2.heap.size→X.heap[x]?=w2.heap[x]?)→(∀ x,x < w4.heap.size→x ≠ w2.heap.size→X.heap[x]?=w4.heap[x]?)→w4.heap.size≤X.heap.size→X.os=w2.os→X.tape=w2.tape→X.output=w2.output→X.heap[w2.heap.size]?=some (.cells #[.pointer (some ⟨bq,0,none⟩),.string (outText q.o),.int .i64 (outErr q.o),.int .i64 (outN q.o),.int .i64 q.n,v,.bool false] 51 (0,0))→LV v (evq q) X→(∀ g,v.ownBlock=some g→w4.heap.size≤g)→∃ O,SAt aL aI q w2.heap.size none O X∧(∀ x,O x→W.heap.size≤x)∧Below W.heap.size W X):=by
    intro w2 w4 X bq O1 v b2 qa qlow sz4 f1 f2 sx x1 x2 x3 hside hlv hvo
    have sz2:=b2.size
    have qlt:=qa.lt
    refine ⟨_,⟨bq,v,O1,hside,qa.keep (fun x hx=>f2 x (qlt x hx) (by have:=qlow x hx;omega)) sx,hlv,fun ho=>by have:=qlow _ ho;omega,fun g hg=>⟨fun ho=>by have:=qlt g ho;have:=hvo g hg;omega,by have:=hvo g hg;omega⟩,rfl⟩,fun x hx=>?_,⟨x1.trans (b2.os.trans hb1.os),x2.trans (b2.tape.trans hb1.tape),x3.trans (b2.output.trans hb1.output),by omega,fun x hx=>(f1 x (by omega)).trans ((b2.block x (by omega)).trans (hb1.block x hx))⟩⟩
    rcases hx with hx | rfl | hx
    · have:=qlow x hx
      omega
    · omega
    · have:=hvo x hx
      omega
  have HE:Hid (outErr q.o ≠ 0→evq q=[]):=evq_err
  have HZ:Hid (W1.heap.size=W.heap.size+1):=z1
  clear h h1 hg hsm hcu hb1 ht et x1 hq hs
  generalize outText q.o=ot at *
  generalize outN q.o=on at *
  generalize evq q=eq at *
  by_cases he:outErr q.o=0
  · generalize outErr q.o=oe at *
    subst he
    go_enter Tryz.func21,Tryz.ntmps21
    go_wp2_with (first
      | (go_at_call 24;refine c1.mono ?_;rintro e w2 ⟨rfl,b2⟩;have l0:W.heap.size < w2.heap.size:=(by have:=b2.size;have:=HZ.out;omega);have j0:=(b2.cell (p:=⟨W.heap.size,0,none⟩) (by show W.heap.size < _;have:=HZ.out;omega)).trans i0;have j1:=(b2.cell (p:=⟨W.heap.size,1,none⟩) (by show W.heap.size < _;have:=HZ.out;omega)).trans i1;have j2:=(b2.cell (p:=⟨W.heap.size,2,none⟩) (by show W.heap.size < _;have:=HZ.out;omega)).trans i2;have j3:=(b2.cell (p:=⟨W.heap.size,3,none⟩) (by show W.heap.size < _;have:=HZ.out;omega)).trans i3)
      | (go_at_call 18;refine (c2 _ (NB.out _ (b2.alloc b2.size _))).mono ?_;rintro e w4 ⟨bq,O1,rfl,qa,qlow,b4⟩;have hside:=(b4.block w2.heap.size (by simp)).trans (heap_alloc_new w2 _);obtain ⟨k0,k1,k2,k3,k4,k5,k6⟩:=cells7 hside;have g0:=row_free (i:=0) hside;have g5:=row_free (i:=5) hside)
      | (go_at_call 51;refine (c3 _).mono ?_;rintro e w6 ⟨p,ln,cpp,rfl,own6,b6⟩;have hs6:=(b6.block w2.heap.size (by rw [World.size_setCell];exact lt_of_block hside)).trans (set_row (i:=0) (v:=.pointer (some ⟨bq,0,none⟩)) hside);have m5:=row_cell (i:=5) hs6 rfl;have q5:=row_free (i:=5) hs6))
    go_ret
    have sz4:=b4.size
    have b6z:=b6.size
    rw [World.size_alloc] at sz4
    rw [World.size_setCell] at b6z own6
    obtain ⟨O,r1,r2,r3⟩:=FIN.out w2 w4 (w6.setCell ⟨w2.heap.size,5,none⟩ (.slice p ln cpp)) bq O1 (.slice p ln cpp) b2 qa (fun x hx=>by have:=qlow x hx;rw [World.size_alloc] at this;exact this) sz4
      (fun x hx=>by rw [Below.heap_setCell _ _ _ _ (by show x ≠ w2.heap.size;omega),b6.block x (by rw [World.size_setCell];omega),Below.heap_setCell _ _ _ _ (by show x ≠ w2.heap.size;omega),b4.block x (by rw [World.size_alloc];omega),Below.heap_alloc _ _ _ hx])
      (fun x hx hne=>by rw [Below.heap_setCell _ _ _ _ hne,b6.block x (by rw [World.size_setCell];exact hx),Below.heap_setCell _ _ _ _ hne])
      (by rw [World.size_setCell];omega) (b6.os.trans b4.os) (b6.tape.trans b4.tape) (b6.output.trans b4.output) (set_row hs6)
      ((LV.of_own own6).keep (fun g hg=>Below.heap_setCell _ _ _ _ (by have:=(own6.lt g hg).1;show g ≠ w2.heap.size;omega)) (by rw [World.size_setCell];exact Nat.le_refl _)) (fun g hg=>by have:=(own6.lt g hg).1;omega)
    exact ⟨_,O,rfl,r1,r2,r3⟩
  · have he':((outErr q.o) == (0:Int))=false:=by simpa using he
    have heq:=HE.out he
    generalize outErr q.o=oe at *
    subst heq
    go_enter Tryz.func21,Tryz.ntmps21
    go_wp2_with (first
      | (go_at_call 24;refine c1.mono ?_;rintro e w2 ⟨rfl,b2⟩;have l0:W.heap.size < w2.heap.size:=(by have:=b2.size;have:=HZ.out;omega);have j0:=(b2.cell (p:=⟨W.heap.size,0,none⟩) (by show W.heap.size < _;have:=HZ.out;omega)).trans i0;have j1:=(b2.cell (p:=⟨W.heap.size,1,none⟩) (by show W.heap.size < _;have:=HZ.out;omega)).trans i1;have j2:=(b2.cell (p:=⟨W.heap.size,2,none⟩) (by show W.heap.size < _;have:=HZ.out;omega)).trans i2;have j3:=(b2.cell (p:=⟨W.heap.size,3,none⟩) (by show W.heap.size < _;have:=HZ.out;omega)).trans i3)
      | (go_at_call 18;refine (c2 _ (NB.out _ (b2.alloc b2.size _))).mono ?_;rintro e w4 ⟨bq,O1,rfl,qa,qlow,b4⟩;have hside:=(b4.block w2.heap.size (by simp)).trans (heap_alloc_new w2 _);obtain ⟨k0,k1,k2,k3,k4,k5,k6⟩:=cells7 hside;have g0:=row_free (i:=0) hside;have g5:=row_free (i:=5) hside))
    go_ret
    have sz4:=b4.size
    rw [World.size_alloc] at sz4
    obtain ⟨O,r1,r2,r3⟩:=FIN.out w2 w4 (w4.setCell ⟨w2.heap.size,0,none⟩ (.pointer (some ⟨bq,0,none⟩))) bq O1 (.slice none 0 0) b2 qa (fun x hx=>by have:=qlow x hx;rw [World.size_alloc] at this;exact this) sz4
      (fun x hx=>by rw [Below.heap_setCell _ _ _ _ (by show x ≠ w2.heap.size;omega),b4.block x (by rw [World.size_alloc];omega),Below.heap_alloc _ _ _ hx])
      (fun x hx hne=>by rw [Below.heap_setCell _ _ _ _ hne])
      (by rw [World.size_setCell];exact Nat.le_refl _) b4.os b4.tape b4.output (set_row hside) (LV.nil _) (fun g hg=>by cases hg)
    exact ⟨_,O,rfl,r1,r2,r3⟩
end Go.Proofs.YtljcljipppjnoaaGreatDoor
namespace Go.Proofs.YtljcljipppjnoaaGreatDoor
open Go.RowKit Go.Shelf
theorem SAt.turn {aL aI:Addr} {q:Gh} {bd bq:Nat} {v v':Value} {r:List Ev} {O1 O2:Nat→Prop} {W W1 w2 X:World} (lbd:bd < W.heap.size) (hno:¬ O1 bd) (hvo:∀ g,v.ownBlock=some g→¬ O1 g∧g ≠ bd) (hvl:∀ g,v.ownBlock=some g→g < W.heap.size)
    (hb:Below W.heap.size W W1) (hf:Fp O1 O2 W1 w2) (qa:QAt aL aI q bq (some r) O2 w2) (fX:∀ x,x < w2.heap.size→x ≠ bd→X.heap[x]?=w2.heap[x]?) (sX:w2.heap.size≤X.heap.size) (x1:X.os=w2.os) (x2:X.tape=w2.tape) (x3:X.output=w2.output)
    (hside:X.heap[bd]?=some (.cells #[.pointer (some ⟨bq,0,none⟩),.string (outText q.o),.int .i64 (outErr q.o),.int .i64 (outN q.o),.int .i64 q.n,v',.bool false] 51 (0,0))) (hlv:LV v' r X) (hov:∀ g,v'.ownBlock=some g→v.ownBlock=some g) :
    ∃ O',SAt aL aI q bd (some r) O' X∧Fp (fun x=>O1 x∨x=bd∨v.ownBlock=some x) O' W X:=by
  have z1:=hb.size
  have z2:=hf.size
  have hno2:∀ x,x < W.heap.size→¬ O1 x→¬ O2 x:=fun x hx hn ho=>by
    rcases hf.grow x ho with h | h
    · exact hn h
    · omega
  refine ⟨_,⟨bq,v',O2,hside,qa.keep (fun x hx=>fX x (qa.lt x hx) fun e=>hno2 bd lbd hno (e ▸ hx)) sX,hlv,hno2 bd lbd hno,fun g hg=>⟨hno2 g (hvl g (hov g hg)) (hvo g (hov g hg)).1,(hvo g (hov g hg)).2⟩,rfl⟩,⟨x1.trans (hf.os.trans hb.os),x2.trans (hf.tape.trans hb.tape),x3.trans (hf.output.trans hb.output),by omega,fun x hx ho=>?_,fun x hx=>?_⟩⟩
  · exact (fX x (by omega) fun e=>ho (Or.inr (Or.inl e))).trans ((hf.block x (by omega) fun h=>ho (Or.inl h)).trans (hb.block x hx))
  · rcases hx with hx | hx | hx
    · rcases hf.grow x hx with h | h
      · exact Or.inl (Or.inl h)
      · exact Or.inr (by omega)
    · exact Or.inl (Or.inr (Or.inl hx))
    · exact Or.inl (Or.inr (Or.inr (hov x hx)))
theorem evCs_drop (l:List Ev) (n:Nat) (j:Nat):(evCs (l.drop n))[j]?=(evCs l)[n * 4+j]?∨l.length < n:=by
  induction n generalizing l with
  | zero=>left;simp
  | succ n ih =>
    cases l with
    | nil=>right;simp
    | cons e r =>
      rcases ih r with h | h
      · left
        rw [List.drop_succ_cons,h]
        have e0:evCs (e :: r)=evCells e++evCs r:=by simp [evCs]
        have el:(evCells e).length=4:=rfl
        rw [e0,List.getElem?_append_right (by omega),el]
        congr 1
        omega
      · right
        simpa using h
theorem LV.drop {g o cap:Nat} {l:List Ev} {W:World} (h:LV (.slice (some ⟨g,o,none⟩) l.length cap) l W) {n:Nat} (hn:n≤l.length):LV (.slice (some ⟨g,o+n * 4,none⟩) (l.length - n) (cap - n)) (l.drop n) W:=by
  obtain ⟨p,cap',hv,h1,h2,h3⟩:=h
  injection hv with hv _ hc
  subst hc
  refine ⟨_,_,by rw [List.length_drop],by rw [List.length_drop];omega,by omega,Or.inr ⟨g,o+n * 4,rfl,?_⟩⟩
  rcases h3 with ⟨h3,_⟩ | ⟨g',o',h4,h5,h6⟩
  · rw [h3] at hv;cases hv
  · rw [h4] at hv
    injection hv with hv
    injection hv with hv ho
    subst hv
    subst ho
    refine ⟨h5,fun j u hj=>?_⟩
    rcases evCs_drop l n j with h | h
    · rw [h] at hj
      rw [Nat.add_assoc]
      exact h6 _ _ hj
    · omega
theorem LV.none {g o cap:Nat} {l:List Ev} {W:World} (h:LV (.slice (some ⟨g,o,none⟩) l.length cap) l W):LV (.slice (some ⟨g,o,none⟩) 0 0) [] W:=by
  obtain ⟨p,cap',hv,h1,h2,h3⟩:=h
  injection hv with hv _ hc
  refine ⟨_,0,rfl,Nat.le_refl _,by omega,Or.inr ⟨g,o,rfl,?_,fun j u hj=>by simp [evCs] at hj⟩⟩
  rcases h3 with ⟨h3,_⟩ | ⟨g',o',h4,h5,h6⟩
  · rw [h3] at hv;cases hv
  · rw [h4] at hv
    injection hv with hv
    injection hv with hv ho
    omega
set_option maxRecDepth 100000 in
set_option maxHeartbeats 2000000 in
theorem step_err {w0:World} {aL aI:Addr} {m:Int} (B:Base w0 aL aI m) {q:Gh} (hq:q.Ok) {bd:Nat} {st:Option (List Ev)} {O:Nat→Prop} {W:World} (hW:Below w0.heap.size w0 W) (hlow:∀ x,O x→w0.heap.size≤x) (h:SAt aL aI q bd st O W) (n:Int) (two:Bool) :
    Calls Tryz.prog 23 #[.pointer (some ⟨bd,0,none⟩),.agg #[.int .i64 3,.int .i64 n,.bool two]] W fun e w'=>e=.returned (.bool true)∧∃ st' O',st'.length≤(leftOf q st).length∧SAt aL aI q bd (some st') O' w'∧Fp O O' W w':=by
  obtain ⟨bq,v,O1,hb,qa,lv,hno,hvo,rfl⟩:=h
  obtain ⟨W1,hW1⟩:∃ W1,W.alloc (.cells #[.int .i64 3,.int .i64 n,.bool two] 54)=W1:=⟨_,rfl⟩
  have hb1:Below W.heap.size W W1:=by rw [← hW1];exact (Below.refl _ W).alloc (Nat.le_refl _) _
  have x1:W1.heap[W.heap.size]?=some (.cells #[.int .i64 3,.int .i64 n,.bool two] 54 (0,0)):=by rw [← hW1];exact heap_alloc_new W _
  obtain ⟨i0,i1,i2⟩:=cells3 x1
  have lbd:=lt_of_block hb
  have hbd:=(hb1.block bd lbd).trans hb
  obtain ⟨k0,k1,k2,k3,k4,k5,k6⟩:=cells7 hbd
  have hw1:Below w0.heap.size w0 W1:=hW.trans (hb1.mono hW.size)
  have hlt:=qa.lt
  have c1:Calls Tryz.prog 20 #[.pointer (some ⟨bq,0,none⟩)] W1 fun e w2=>e=.returned (.tuple #[.agg #[.int .i64 (outErr q.o),.int .i64 (outN q.o)],.int .i64 q.n])∧w2.cell? ⟨bd,2,none⟩=some (.int .i64 (outErr q.o))∧w2.cell? ⟨bd,3,none⟩=some (.int .i64 (outN q.o))∧w2.cell? ⟨bd,4,none⟩=some (.int .i64 q.n)∧bd < w2.heap.size∧Hid (∀ X,Below w2.heap.size w2 X→∃ st' O',st'.length≤(leftOf q st).length∧SAt aL aI q bd (some st') O' X∧Fp (fun x=>O1 x∨x=bd∨v.ownBlock=some x) O' W X):=by
    refine (qerr_any B hq hw1 (fun x hx=>hlow x (Or.inl hx)) (qa.keep (fun x hx=>hb1.block x (hlt x hx)) hb1.size)).mono ?_
    rintro e w2 ⟨rfl,O2,qa2,hf⟩
    have z1:=hb1.size
    have hbd2:w2.heap[bd]?=_:=(hf.block bd (by omega) hno).trans hbd
    obtain ⟨m0,m1,m2,m3,m4,m5,m6⟩:=cells7 hbd2
    refine ⟨rfl,m2,m3,m4,lt_of_block hbd2,fun X hX=>?_⟩
    obtain ⟨O',a,b⟩:=SAt.turn lbd hno hvo (fun g hg=>lv.lt hg) hb1 hf qa2 (fun x hx _=>hX.block x hx) hX.size hX.os hX.tape hX.output ((hX.block bd (lt_of_block hbd2)).trans hbd2) (lv.keep (fun g hg=>(hX.block g (by have:=lv.lt hg;have:=hf.size;omega)).trans ((hf.block g (by have:=lv.lt hg;omega) (hvo g hg).1).trans (hb1.block g (lv.lt hg)))) (by have:=hX.size;have:=hf.size;omega)) (fun g hg=>hg)
    exact ⟨_,O',Nat.le_refl _,a,b⟩
  clear qa hlow hW hb hbd hlt hw1 hb1 B hq lv hvo hno x1
  generalize outErr q.o=oe at *
  generalize outN q.o=on at *
  go_enter Tryz.func23,Tryz.ntmps23
  go_wp2_with (go_at_call 20;refine c1.mono ?_;rintro e w2 ⟨rfl,d2,d3,d4,ld,HF⟩)
  go_quiet (fail)
  go_wp2
  go_ret
  have hbl:=(Below.refl w2.heap.size w2).alloc (Nat.le_refl _) (.cells #[.int .i64 oe,.int .i64 on] 43)
  exact ⟨rfl,HF.out _ ⟨hbl.os,hbl.tape,hbl.output,hbl.size,hbl.block⟩⟩
end Go.Proofs.YtljcljipppjnoaaGreatDoor
namespace Go.Proofs.YtljcljipppjnoaaGreatDoor
open Go.RowKit Go.Shelf
set_option maxRecDepth 100000 in
set_option maxHeartbeats 2000000 in
theorem step_next0 {w0:World} {aL aI:Addr} {m:Int} (B:Base w0 aL aI m) {q:Gh} (hq:q.Ok) {bd:Nat} {st:Option (List Ev)} {O:Nat→Prop} {W:World} (hW:Below w0.heap.size w0 W) (hlow:∀ x,O x→w0.heap.size≤x) (h:SAt aL aI q bd st O W) (hs:leftOf q st=[]) (n:Int) (two:Bool) :
    Calls Tryz.prog 23 #[.pointer (some ⟨bd,0,none⟩),.agg #[.int .i64 1,.int .i64 n,.bool two]] W fun e w'=>e=.returned (.bool true)∧∃ st' O',st'.length≤(leftOf q st).length∧SAt aL aI q bd (some st') O' w'∧Fp O O' W w':=by
  obtain ⟨bq,v,O1,hb,qa,lv,hno,hvo,rfl⟩:=h
  obtain ⟨W1,hW1⟩:∃ W1,W.alloc (.cells #[.int .i64 1,.int .i64 n,.bool two] 54)=W1:=⟨_,rfl⟩
  have hb1:Below W.heap.size W W1:=by rw [← hW1];exact (Below.refl _ W).alloc (Nat.le_refl _) _
  have x1:W1.heap[W.heap.size]?=some (.cells #[.int .i64 1,.int .i64 n,.bool two] 54 (0,0)):=by rw [← hW1];exact heap_alloc_new W _
  obtain ⟨i0,i1,i2⟩:=cells3 x1
  have lbd:=lt_of_block hb
  have hbd:=(hb1.block bd lbd).trans hb
  obtain ⟨k0,k1,k2,k3,k4,k5,k6⟩:=cells7 hbd
  have hw1:Below w0.heap.size w0 W1:=hW.trans (hb1.mono hW.size)
  have hlt:=qa.lt
  rw [hs] at lv
  obtain ⟨p,cap,hv⟩:∃ p cap,v=.slice p 0 cap:=by
    obtain ⟨p,cap,hv,_⟩:=lv
    exact ⟨p,cap,hv⟩
  have c1:Calls Tryz.prog 19 #[.pointer (some ⟨bq,0,none⟩)] W1 fun e w2=>e=.returned (.tuple #[.agg #[.int .i64 0,.bool false,.int .i64 0,.string ⟨#[]⟩],.bool false])∧w2.cell? ⟨bd,5,none⟩=some (.slice p 0 cap)∧bd < w2.heap.size∧Hid (∀ X,Below w2.heap.size w2 X→∃ st' O',st'.length≤(leftOf q st).length∧SAt aL aI q bd (some st') O' X∧Fp (fun x=>O1 x∨x=bd∨v.ownBlock=some x) O' W X):=by
    refine (qnext_any B hq hw1 (fun x hx=>hlow x (Or.inl hx)) (qa.keep (fun x hx=>hb1.block x (hlt x hx)) hb1.size)).mono ?_
    rw [hs]
    rintro e w2 ⟨rfl,O2,qa2,hf⟩
    have z1:=hb1.size
    have hbd2:w2.heap[bd]?=_:=(hf.block bd (by omega) hno).trans hbd
    obtain ⟨m0,m1,m2,m3,m4,m5,m6⟩:=cells7 hbd2
    rw [hv] at m5
    refine ⟨rfl,m5,lt_of_block hbd2,fun X hX=>?_⟩
    obtain ⟨O',a,b⟩:=SAt.turn lbd hno hvo (fun g hg=>lv.lt hg) hb1 hf qa2 (fun x hx _=>hX.block x hx) hX.size hX.os hX.tape hX.output ((hX.block bd (lt_of_block hbd2)).trans hbd2) (lv.keep (fun g hg=>(hX.block g (by have:=lv.lt hg;have:=hf.size;omega)).trans ((hf.block g (by have:=lv.lt hg;omega) (hvo g hg).1).trans (hb1.block g (lv.lt hg)))) (by have:=hX.size;have:=hf.size;omega)) (fun g hg=>hg)
    exact ⟨[],O',Nat.zero_le _,a,b⟩
  clear qa hlow hW hb hbd hlt hw1 hb1 B hq lv hvo hno x1 k5 hv
  go_enter Tryz.func23,Tryz.ntmps23
  go_wp2_with (go_at_call 19;refine c1.mono ?_;rintro e w2 ⟨rfl,d5,ld,HF⟩)
  go_ret
  exact ⟨rfl,HF.out _ ((Below.refl w2.heap.size w2).alloc (Nat.le_refl _) _)⟩
set_option maxRecDepth 100000 in
set_option maxHeartbeats 2000000 in
theorem step_next1 {w0:World} {aL aI:Addr} {m:Int} (B:Base w0 aL aI m) {q:Gh} (hq:q.Ok) {bd:Nat} {st:Option (List Ev)} {O:Nat→Prop} {W:World} (hW:Below w0.heap.size w0 W) (hlow:∀ x,O x→w0.heap.size≤x) (h:SAt aL aI q bd st O W) (ev:Ev) (r:List Ev) (hs:leftOf q st=ev :: r) (hl:r.length≤4999) (n:Int) (two:Bool) :
    Calls Tryz.prog 23 #[.pointer (some ⟨bd,0,none⟩),.agg #[.int .i64 1,.int .i64 n,.bool two]] W fun e w'=>e=.returned (.bool true)∧∃ st' O',st'.length≤(leftOf q st).length∧SAt aL aI q bd (some st') O' w'∧Fp O O' W w':=by
  obtain ⟨bq,v,O1,hb,qa,lv,hno,hvo,rfl⟩:=h
  obtain ⟨W1,hW1⟩:∃ W1,W.alloc (.cells #[.int .i64 1,.int .i64 n,.bool two] 54)=W1:=⟨_,rfl⟩
  have hb1:Below W.heap.size W W1:=by rw [← hW1];exact (Below.refl _ W).alloc (Nat.le_refl _) _
  have x1:W1.heap[W.heap.size]?=some (.cells #[.int .i64 1,.int .i64 n,.bool two] 54 (0,0)):=by rw [← hW1];exact heap_alloc_new W _
  obtain ⟨i0,i1,i2⟩:=cells3 x1
  have lbd:=lt_of_block hb
  have hbd:=(hb1.block bd lbd).trans hb
  obtain ⟨k0,k1,k2,k3,k4,k5,k6⟩:=cells7 hbd
  have hw1:Below w0.heap.size w0 W1:=hW.trans (hb1.mono hW.size)
  have hlt:=qa.lt
  rw [hs] at lv
  obtain ⟨g,o,cap,hv,hc1,hc2⟩:∃ g o cap,v=.slice (some ⟨g,o,none⟩) (r.length+1) cap∧r.length+1≤cap∧cap≤9223372036854775807:=by
    obtain ⟨p,cap,hv,h1,h2,h3⟩:=lv
    rcases h3 with ⟨_,h3⟩ | ⟨g,o,h4,_⟩
    · rw [h3] at h1;simp at h1
    · exact ⟨g,o,cap,by rw [hv,h4];rfl,by simpa using h1,h2⟩
  have lg:g < W.heap.size∧g ≠ bd∧¬ O1 g:=⟨lv.lt (by rw [hv];rfl),(hvo g (by rw [hv];rfl)).2,(hvo g (by rw [hv];rfl)).1⟩
  have c1:Calls Tryz.prog 19 #[.pointer (some ⟨bq,0,none⟩)] W1 fun e w2=>e=.returned (.tuple #[.agg #[.int .i64 ev.kind,.bool ev.fin,.int .i64 ev.level,.string ⟨ev.text.toArray⟩],.bool true])∧w2.heap[bd]?=some (.cells #[.pointer (some ⟨bq,0,none⟩),.string (outText q.o),.int .i64 (outErr q.o),.int .i64 (outN q.o),.int .i64 q.n,.slice (some ⟨g,o,none⟩) (r.length+1) cap,.bool false] 51 (0,0))∧w2.cell? ⟨bd,5,none⟩=some (.slice (some ⟨g,o,none⟩) (r.length+1) cap)∧bd < w2.heap.size∧g < w2.heap.size∧Hid (LV (.slice (some ⟨g,o,none⟩) (r.length+1) cap) (ev :: r) w2)∧Hid (∀ X v',(∀ x,x < w2.heap.size→x ≠ bd→X.heap[x]?=w2.heap[x]?)→w2.heap.size≤X.heap.size→X.os=w2.os→X.tape=w2.tape→X.output=w2.output→X.heap[bd]?=some (.cells #[.pointer (some ⟨bq,0,none⟩),.string (outText q.o),.int .i64 (outErr q.o),.int .i64 (outN q.o),.int .i64 q.n,v',.bool false] 51 (0,0))→LV v' r w2→(∀ x,v'.ownBlock=some x→x=g)→∃ st' O',st'.length≤(leftOf q st).length∧SAt aL aI q bd (some st') O' X∧Fp (fun x=>O1 x∨x=bd∨v.ownBlock=some x) O' W X):=by
    refine (qnext_any B hq hw1 (fun x hx=>hlow x (Or.inl hx)) (qa.keep (fun x hx=>hb1.block x (hlt x hx)) hb1.size)).mono ?_
    rw [hs]
    rintro e w2 ⟨rfl,O2,qa2,hf⟩
    have z1:=hb1.size
    have z2:=hf.size
    have hbd2:w2.heap[bd]?=_:=(hf.block bd (by omega) hno).trans hbd
    rw [hv] at hbd2
    obtain ⟨m0,m1,m2,m3,m4,m5,m6⟩:=cells7 hbd2
    have hg2:w2.heap[g]?=W.heap[g]?:=(hf.block g (by omega) lg.2.2).trans (hb1.block g lg.1)
    have lv2:LV v (ev :: r) w2:=lv.keep (fun x hx=>by
      rw [hv] at hx
      injection hx with hx
      have hx:g=x:=hx
      rw [← hx]
      exact hg2) (by omega)
    rw [hv] at lv2
    refine ⟨rfl,hbd2,m5,by omega,by omega,lv2,fun X v' fX sX y1 y2 y3 hside hlv hov=>?_⟩
    obtain ⟨O',a,b⟩:=SAt.turn lbd hno hvo (fun g hg=>lv.lt hg) hb1 hf qa2 fX sX y1 y2 y3 hside (hlv.keep (fun x hx=>fX x (hlv.lt hx) (by rw [hov x hx];exact lg.2.1)) sX) (fun x hx=>by rw [hov x hx,hv];rfl)
    exact ⟨r,O',by rw [List.length_cons];omega,a,b⟩
  have HLG:Hid (g < W.heap.size∧g ≠ bd):=⟨lg.1,lg.2.1⟩
  have ngb:¬ g=bd:=lg.2.1
  have nbg:¬ bd=g:=fun e=>lg.2.1 e.symm
  clear qa hlow hW hb hbd hlt hw1 hb1 B hq lv hvo hno x1 k5 hv lg
  go_enter Tryz.func23,Tryz.ntmps23
  go_wp2_with (go_at_call 19;refine c1.mono ?_;rintro e w2 ⟨rfl,hside,d5,ld,lg,HL,HF⟩)
  obtain ⟨wd,hwd⟩:∃ wd,w2.alloc (.cells #[.int .i64 ev.kind,.bool ev.fin,.int .i64 ev.level,.string ⟨ev.text.toArray⟩] 39)=wd:=⟨_,rfl⟩
  have hX:Below w2.heap.size w2 wd:=by rw [← hwd];exact (Below.refl _ w2).alloc (Nat.le_refl _) _
  have zd:wd.heap.size=w2.heap.size+1:=by rw [← hwd];simp
  have xe:wd.heap[w2.heap.size]?=some (.cells #[.int .i64 ev.kind,.bool ev.fin,.int .i64 ev.level,.string ⟨ev.text.toArray⟩] 39 (0,0)):=by rw [← hwd];exact heap_alloc_new w2 _
  have HK:Hid (∀ w',Below wd.heap.size wd w'→w'.cell? ⟨w2.heap.size,0,none⟩=some (.int .i64 ev.kind)∧w'.cell? ⟨w2.heap.size,1,none⟩=some (.bool ev.fin)∧w'.cell? ⟨w2.heap.size,2,none⟩=some (.int .i64 ev.level)∧w'.cell? ⟨w2.heap.size,3,none⟩=some (.string ⟨ev.text.toArray⟩)∧w'.cell? ⟨bd,5,none⟩=some (.slice (some ⟨g,o,none⟩) (r.length+1) cap)):=fun w' hb=>by
    obtain ⟨a0,a1,a2,a3⟩:=cells4 ((hb.block w2.heap.size (by omega)).trans xe)
    exact ⟨a0,a1,a2,a3,(hb.cell (p:=⟨bd,5,none⟩) (by show bd < _;omega)).trans ((hX.cell (p:=⟨bd,5,none⟩) ld).trans d5)⟩
  have hD:Below wd.heap.size wd wd.drew:=(Below.refl _ wd).drew
  have hDA:=((Below.refl wd.heap.size wd).alloc (Nat.le_refl _) (.cells #[.int .i64 ev.kind,.bool ev.fin,.int .i64 ev.level,.string ⟨ev.text.toArray⟩] 39)).drew
  have hnew:(wd.alloc (.cells #[.int .i64 ev.kind,.bool ev.fin,.int .i64 ev.level,.string ⟨ev.text.toArray⟩] 39)).drew.heap[wd.heap.size]?=some (.cells #[.int .i64 ev.kind,.bool ev.fin,.int .i64 ev.level,.string ⟨ev.text.toArray⟩] 39 (0,0)):=heap_alloc_new wd _
  generalize hZ:(wd.alloc (.cells #[.int .i64 ev.kind,.bool ev.fin,.int .i64 ev.level,.string ⟨ev.text.toArray⟩] 39)).drew=Z at hDA hnew
  have lvZ:LV (.slice (some ⟨g,o,none⟩) (r.length+1) cap) (ev :: r) Z:=HL.out.keep (fun x hx=>(hDA.block x (by have:=HL.out.lt hx;omega)).trans (hX.block x (HL.out.lt hx))) (by have:=hDA.size;omega)
  have CS:Calls Tryz.prog 16 #[.slice (some ⟨wd.heap.size,0,none⟩) 1 1,.slice (some ⟨g,o,none⟩) 1 cap] Z fun e w3=>e=.returned (.bool true)∧Below wd.heap.size wd w3:=by
    refine (same_at wd.heap.size 1 g o cap [ev] _ (by simp) (fun j u hj=>?_) (fun j u hj=>?_) (lt_of_block hnew) (by have:=hDA.size;omega)).mono ?_
    · rw [evCs_one] at hj
      refine row_cell hnew ?_
      rw [← hj]
      simp [evCells]
    · obtain ⟨p,cap',hv,_,_,h3⟩:=lvZ
      rcases h3 with ⟨h3,_⟩ | ⟨g',o',h4,_,h6⟩
      · rw [h3] at hv;cases hv
      · rw [h4] at hv
        injection hv with hv
        injection hv with hv
        injection hv with hv ho
        subst hv
        subst ho
        refine h6 j u ?_
        have e0:evCs (ev :: r)=evCs [ev]++evCs r:=by simp [evCs]
        rw [e0,List.getElem?_append_left (List.getElem?_eq_some_iff.1 hj).1]
        exact hj
    · rintro e w3 ⟨rfl,b3⟩
      exact ⟨rfl,hDA.trans (b3.mono hDA.size)⟩
  have HX:Hid (Below w2.heap.size w2 wd):=hX
  have HS:Hid _:=hside
  have HW:Hid (wd.heap.size=w2.heap.size+1):=zd
  rw [hwd]
  obtain ⟨e0,e1,e2,e3,e5⟩:=HK.out wd (Below.refl _ wd)
  have ld1:bd < wd.heap.size:=by omega
  have hci:(1:Int)≤(cap:Int):=by omega
  have hcn:¬ cap=0:=by omega
  have lg1:g < wd.heap.size:=by omega
  clear hX xe hside c1 hwd lvZ hW1 hnew zd
  have HDA:Hid _:=HK.out Z hDA
  clear hDA
  go_region_held3 (fun w'=>w'.cell? ⟨w2.heap.size,0,none⟩=some (.int .i64 ev.kind)∧w'.cell? ⟨w2.heap.size,1,none⟩=some (.bool ev.fin)∧w'.cell? ⟨w2.heap.size,2,none⟩=some (.int .i64 ev.level)∧w'.cell? ⟨w2.heap.size,3,none⟩=some (.string ⟨ev.text.toArray⟩)∧w'.cell? ⟨bd,5,none⟩=some (.slice (some ⟨g,o,none⟩) (r.length+1) cap)) (first | exact HK.out _ hD | exact HDA.out | exact HK.out _ b3) ((go_at_call 16;refine CS.mono ?_;rintro e w3 ⟨rfl,b3⟩))
  have hsd:w3.heap[bd]?=_:=(b3.block bd ld1).trans ((HX.out.block bd ld).trans HS.out)
  have m5:=row_cell (i:=5) hsd rfl
  have f5:=row_free (i:=5) hsd
  have HSD:Hid _:=hsd
  have B3:Hid (Below w2.heap.size w2 w3):=HX.out.trans (b3.mono HX.out.size)
  clear hsd HDA CS e0 e1 e2 e3 e5 k0 k1 k2 k3 k4 k6 i0 i1 i2 b3 hD hZ HK d5
  by_cases hcap:cap=1
  · have hr0:r=[]:=List.eq_nil_of_length_eq_zero (by omega)
    subst hr0
    subst hcap
    go_wp2
    go_ret
    exact ⟨rfl,HF.out _ (.slice (some ⟨g,o,none⟩) 0 0) (fun x hx hne=>(Below.heap_setCell _ _ _ _ hne).trans (B3.out.block x hx)) (by rw [World.size_setCell];exact B3.out.size) B3.out.os B3.out.tape B3.out.output (set_row HSD.out) (LV.none (l:=[ev]) HL.out) (fun x hx=>by injection hx with hx;exact hx.symm)⟩
  · go_wp2
    go_ret
    exact ⟨rfl,HF.out _ (.slice (some ⟨g,o+4,none⟩) r.length (cap - 1)) (fun x hx hne=>(Below.heap_setCell _ _ _ _ hne).trans (B3.out.block x hx)) (by rw [World.size_setCell];exact B3.out.size) B3.out.os B3.out.tape B3.out.output (set_row HSD.out) (by have:=LV.drop (l:=ev :: r) HL.out (n:=1) (by simp);simpa using this) (fun x hx=>by injection hx with hx;exact hx.symm)⟩
end Go.Proofs.YtljcljipppjnoaaGreatDoor
namespace Go.Proofs.YtljcljipppjnoaaGreatDoor
open Go.RowKit Go.Shelf
theorem same_taken {w2:World} {v2:Value} {acc r:List Ev} (ow:w2.ownsRow 0 39 4 v2 acc.length (evCs acc)) {p:Option Addr} {cap:Nat} (lv:LV (.slice p (acc++r).length cap) (acc++r) w2) (hl:acc.length≤5000) (Z:World) (hZ:Below w2.heap.size w2 Z) :
    Calls Tryz.prog 16 #[v2,.slice p acc.length cap] Z fun e w3=>e=.returned (.bool true)∧Below w2.heap.size w2 w3:=by
  have fin:∀ {e:Ending} {w3:World},e=.returned (.bool true)∧Below Z.heap.size Z w3→e=.returned (.bool true)∧Below w2.heap.size w2 w3:=fun h=>⟨h.1,hZ.trans (h.2.mono hZ.size)⟩
  rcases ow.2 with ⟨rfl,h0⟩ | ⟨g1,c1,cur,rfl,_,hg,_,_,_,_⟩
  · rw [h0]
    exact (same_none _ _ _ _ _).mono fun e w3 h=>fin h
  · obtain ⟨p',cap',hv,_,_,h3⟩:=lv
    injection hv with hv _ hc
    subst hv
    subst hc
    rcases h3 with ⟨h3,h4⟩ | ⟨g2,o2,h4,h5,h6⟩
    · have:acc.length=0:=by
        rename_i hle _
        rw [List.length_append] at hle
        omega
      rw [this]
      exact (same_none _ _ _ _ _).mono fun e w3 h=>fin h
    · subst h4
      refine (same_at g1 c1 g2 o2 cap acc Z (by omega) (fun j u hj=>?_) (fun j u hj=>?_) (by have:=lt_of_block hg;have:=hZ.size;omega) (by have:=hZ.size;omega)).mono fun e w3 h=>fin h
      · have:=ow.cells (g:=g1) rfl j u hj
        rw [Addr.add_lit,Nat.zero_add] at this
        exact (hZ.cell (p:=⟨g1,j,none⟩) (lt_of_block hg)).trans this
      · refine (hZ.cell (p:=⟨g2,o2+j,none⟩) h5).trans (h6 j u ?_)
        rw [evCs_append,List.getElem?_append_left (List.getElem?_eq_some_iff.1 hj).1]
        exact hj
theorem taken_len {acc r l:List Ev} {n:Int} (h:acc++r=l) (hc:(r=[]∧(n < 1∨(acc.length:Int) < n))∨((acc.length:Int)=n∧1≤n)) {k:Nat} (hk:((n < 1∨(l.length:Int) < n)∧k=l.length)∨(¬ n < 1∧¬ (l.length:Int) < n∧n=k)):acc.length=k:=by
  have hl:acc.length+r.length=l.length:=by rw [← h];simp
  rcases hc with ⟨rfl,hc⟩ | ⟨hc,hc2⟩
  · simp at hl
    omega
  · omega
set_option maxRecDepth 100000 in
set_option maxHeartbeats 2000000 in
theorem step_all {w0:World} {aL aI:Addr} {m:Int} (B:Base w0 aL aI m) {q:Gh} (hq:q.Ok) {bd:Nat} {st:Option (List Ev)} {O:Nat→Prop} {W:World} (hW:Below w0.heap.size w0 W) (hlow:∀ x,O x→w0.heap.size≤x) (h:SAt aL aI q bd st O W) (hl:(leftOf q st).length≤4999) (n:Int) (two:Bool) :
    Calls Tryz.prog 23 #[.pointer (some ⟨bd,0,none⟩),.agg #[.int .i64 2,.int .i64 n,.bool two]] W fun e w'=>e=.returned (.bool true)∧∃ st' O',st'.length≤(leftOf q st).length∧SAt aL aI q bd (some st') O' w'∧Fp O O' W w':=by
  obtain ⟨bq,v,O1,hb,qa,lv,hno,hvo,rfl⟩:=h
  obtain ⟨W1,hW1⟩:∃ W1,W.alloc (.cells #[.int .i64 2,.int .i64 n,.bool two] 54)=W1:=⟨_,rfl⟩
  have hb1:Below W.heap.size W W1:=by rw [← hW1];exact (Below.refl _ W).alloc (Nat.le_refl _) _
  have x1:W1.heap[W.heap.size]?=some (.cells #[.int .i64 2,.int .i64 n,.bool two] 54 (0,0)):=by rw [← hW1];exact heap_alloc_new W _
  obtain ⟨i0,i1,i2⟩:=cells3 x1
  have lbd:=lt_of_block hb
  have hbd:=(hb1.block bd lbd).trans hb
  obtain ⟨k0,k1,k2,k3,k4,k5,k6⟩:=cells7 hbd
  have hw1:Below w0.heap.size w0 W1:=hW.trans (hb1.mono hW.size)
  have hlt:=qa.lt
  obtain ⟨k,hk⟩:∃ k:Nat,((n < 1∨((leftOf q st).length:Int) < n)∧k=(leftOf q st).length)∨(¬ n < 1∧¬ ((leftOf q st).length:Int) < n∧n=k):=by
    by_cases h1:n < 1∨((leftOf q st).length:Int) < n
    · exact ⟨_,Or.inl ⟨h1,rfl⟩⟩
    · exact ⟨n.toNat,Or.inr (by omega)⟩
  obtain ⟨p,cap,hv,hcap1,hcap2,hform⟩:=lv
  have lv:LV v (leftOf q st) W:=⟨p,cap,hv,hcap1,hcap2,hform⟩
  have lgp:∀ g o,p=some ⟨g,o,none⟩→g < W.heap.size∧g ≠ bd∧¬ O1 g:=fun g o hp=>⟨lv.lt (by rw [hv,hp];rfl),(hvo g (by rw [hv,hp];rfl)).2,(hvo g (by rw [hv,hp];rfl)).1⟩
  have hkl:k≤(leftOf q st).length:=by omega
  have c1:Calls Tryz.prog 52 #[.pointer (some ⟨bq,0,none⟩),.int .i64 n] W1.drew fun e w2=>∃ p2 l2 c2,e=.returned (.tuple #[.slice p2 l2 c2,.bool true])∧(w2.cell? ⟨bd,0,none⟩=some (.pointer (some ⟨bq,0,none⟩))∧w2.cell? ⟨W.heap.size,1,none⟩=some (.int .i64 n))∧w2.heap[bd]?=some (.cells #[.pointer (some ⟨bq,0,none⟩),.string (outText q.o),.int .i64 (outErr q.o),.int .i64 (outN q.o),.int .i64 q.n,.slice p (leftOf q st).length cap,.bool false] 51 (0,0))∧w2.cell? ⟨bd,5,none⟩=some (.slice p (leftOf q st).length cap)∧bd < w2.heap.size∧Hid (∀ Z,Below w2.heap.size w2 Z→Calls Tryz.prog 16 #[.slice p2 l2 c2,.slice p k cap] Z fun e w3=>e=.returned (.bool true)∧Below w2.heap.size w2 w3)∧Hid (LV (.slice p (leftOf q st).length cap) (leftOf q st) w2∧∀ X v',(∀ x,x < w2.heap.size→x ≠ bd→X.heap[x]?=w2.heap[x]?)→w2.heap.size≤X.heap.size→X.os=w2.os→X.tape=w2.tape→X.output=w2.output→X.heap[bd]?=some (.cells #[.pointer (some ⟨bq,0,none⟩),.string (outText q.o),.int .i64 (outErr q.o),.int .i64 (outN q.o),.int .i64 q.n,v',.bool false] 51 (0,0))→LV v' ((leftOf q st).drop k) w2→(∀ x,v'.ownBlock=some x→∃ o,p=some ⟨x,o,none⟩)→∃ st' O',st'.length≤(leftOf q st).length∧SAt aL aI q bd (some st') O' X∧Fp (fun x=>O1 x∨x=bd∨v.ownBlock=some x) O' W X):=by
    refine (qall_any (W:=W1.drew) B hq hw1.drew (fun x hx=>hlow x (Or.inl hx)) (qa.keep (fun x hx=>hb1.block x (hlt x hx)) hb1.size) n hl).mono ?_
    rintro e w2 ⟨v2,acc,r,O2,rfl,ow,qa2,hf,hacc,hcond⟩
    have z1:=hb1.size
    have z2:W1.heap.size≤w2.heap.size:=hf.size
    have z3:W.heap.size < W1.heap.size:=lt_of_block x1
    have hka:=taken_len hacc hcond hk
    have hbd2:w2.heap[bd]?=_:=(hf.block bd (by show bd < W1.heap.size;omega) hno).trans hbd
    rw [hv] at hbd2
    obtain ⟨m0,m1,m2,m3,m4,m5,m6⟩:=cells7 hbd2
    have lv2:LV v (leftOf q st) w2:=lv.keep (fun x hx=>(hf.block x (by have:=lv.lt hx;show x < W1.heap.size;omega) (hvo x hx).1).trans (hb1.block x (lv.lt hx))) (by omega)
    rw [hv] at lv2
    obtain ⟨p2,l2,c2,rfl⟩:∃ p2 l2 c2,v2=.slice p2 l2 c2:=by
      rcases Joins.ownsRow_forms ow with ⟨h,_⟩ | ⟨g',cap',h⟩
      · exact ⟨_,_,_,h⟩
      · exact ⟨_,_,_,h⟩
    have hdr:(leftOf q st).drop k=r:=by rw [← hacc,← hka,List.drop_left]
    have hop:w2.heap[W.heap.size]?=_:=(hf.block W.heap.size z3 (fun ho=>by have:=hlt _ ho;omega)).trans x1
    refine ⟨p2,l2,c2,rfl,⟨m0,(cells3 hop).2.1⟩,hbd2,m5,by omega,fun Z hZ=>?_,lv2,fun X v' fX sX y1 y2 y3 hside hlv hov=>?_⟩
    · rw [← hka]
      rw [← hacc] at lv2
      exact same_taken ow lv2 (by rw [← hacc,List.length_append] at hl;omega) Z hZ
    · rw [hdr] at hlv
      obtain ⟨O',a,b⟩:=SAt.turn (W1:=W1.drew) lbd hno hvo (fun g hg=>lv.lt hg) hb1.drew hf qa2 fX sX y1 y2 y3 hside (hlv.keep (fun x hx=>fX x (hlv.lt hx) (by obtain ⟨o,ho⟩:=hov x hx;exact (lgp x o ho).2.1)) sX) (fun x hx=>by obtain ⟨o,ho⟩:=hov x hx;rw [hv,ho];rfl)
      exact ⟨r,O',by rw [← hacc,List.length_append];omega,a,b⟩
  rw [hv] at k5
  have i1':W1.drew.cell? ⟨W.heap.size,1,none⟩=some (.int .i64 n):=i1
  have k0':W1.drew.cell? ⟨bd,0,none⟩=some (.pointer (some ⟨bq,0,none⟩)):=k0
  clear qa hlow hW hb hbd hlt hw1 hb1 B hq lv hvo hno x1 hv lgp
  generalize hlf:leftOf q st=lf at *
  clear hlf
  generalize hln:lf.length=ln at *
  have HLN:Hid (lf.length=ln):=hln
  clear hln
  rcases hform with ⟨rfl,rfl⟩ | ⟨g,o,rfl,lg,_⟩
  · -- nothing is there
    have h0:ln=0:=by omega
    subst h0
    have hk0:k=0:=by omega
    subst hk0
    have hlf:lf=[]:=List.eq_nil_of_length_eq_zero HLN.out
    subst hlf
    have hcz:((0:Nat):Int)≤((0:Nat):Int):=Int.le_refl _
    rcases Classical.em (n < 1) with h1 | h1
    · have b1:decide (n < 1)=true:=by simp;omega
      have hci:((0:Nat):Int)≤((0:Nat):Int):=by omega
      have hcl:((0:Nat):Int)≤((0:Nat):Int):=by omega
      go_enter Tryz.func23,Tryz.ntmps23
      go_wp2
      go_region_held3 (fun w'=>w'.cell? ⟨bd,0,none⟩=some (.pointer (some ⟨bq,0,none⟩))∧w'.cell? ⟨W.heap.size,1,none⟩=some (.int .i64 n)) (first | exact ⟨k0',i1'⟩ | exact DS) ((go_at_call 52;refine c1.mono ?_;rintro e w2 ⟨p2,l2,c2,rfl,DS,hside,d5,ld,SC,HF⟩))
      have hD:Below w2.heap.size w2 w2:=Below.refl _ w2
      have HS:Hid _:=hside
      clear c1 hside hW1
      go_wp2_with (go_at_call 16;refine (SC.out _ hD).mono ?_;rintro e w3 ⟨rfl,b3⟩;have hsd:=(b3.block bd ld).trans HS.out;have m5:=row_cell (i:=5) hsd rfl;have f5:=row_free (i:=5) hsd;have HSD:Hid _:=hsd;have B3:Hid (Below w2.heap.size w2 w3):=b3;clear hsd b3)
      go_ret
      exact ⟨rfl,HF.out.2 _ (.slice none 0 0) (fun x hx hne=>(Below.heap_setCell _ _ _ _ hne).trans (B3.out.block x hx)) (by rw [World.size_setCell];exact B3.out.size) B3.out.os B3.out.tape B3.out.output (set_row HSD.out) (LV.nil _) (fun x hx=>by cases hx)⟩
    · have b1:decide (n < 1)=false:=by simp;omega
      have b2:decide ((0:Int) < n)=true:=by simp;omega
      have hci:((0:Nat):Int)≤((0:Nat):Int):=by omega
      have hcl:((0:Nat):Int)≤((0:Nat):Int):=by omega
      go_enter Tryz.func23,Tryz.ntmps23
      go_wp2
      go_region_held3 (fun w'=>w'.cell? ⟨bd,0,none⟩=some (.pointer (some ⟨bq,0,none⟩))∧w'.cell? ⟨W.heap.size,1,none⟩=some (.int .i64 n)) (first | exact ⟨k0',i1'⟩ | exact DS) ((go_at_call 52;refine c1.mono ?_;rintro e w2 ⟨p2,l2,c2,rfl,DS,hside,d5,ld,SC,HF⟩))
      have hD:Below w2.heap.size w2 w2:=Below.refl _ w2
      have HS:Hid _:=hside
      clear c1 hside hW1
      go_wp2_with (go_at_call 16;refine (SC.out _ hD).mono ?_;rintro e w3 ⟨rfl,b3⟩;have hsd:=(b3.block bd ld).trans HS.out;have m5:=row_cell (i:=5) hsd rfl;have f5:=row_free (i:=5) hsd;have HSD:Hid _:=hsd;have B3:Hid (Below w2.heap.size w2 w3):=b3;clear hsd b3)
      go_ret
      exact ⟨rfl,HF.out.2 _ (.slice none 0 0) (fun x hx hne=>(Below.heap_setCell _ _ _ _ hne).trans (B3.out.block x hx)) (by rw [World.size_setCell];exact B3.out.size) B3.out.os B3.out.tape B3.out.output (set_row HSD.out) (LV.nil _) (fun x hx=>by cases hx)⟩
  · rcases hk with ⟨hk,rfl⟩ | ⟨h1,h2,rfl⟩
    · rcases Classical.em (n < 1) with h1 | h1
      · have b1:decide (n < 1)=true:=by simp;omega
        by_cases hck:cap=k
        · subst hck
          have hci:(cap:Int)≤(cap:Int):=by omega
          have hcl:(cap:Int)≤(cap:Int):=by omega
          go_enter Tryz.func23,Tryz.ntmps23
          go_wp2
          go_region_held3 (fun w'=>w'.cell? ⟨bd,0,none⟩=some (.pointer (some ⟨bq,0,none⟩))∧w'.cell? ⟨W.heap.size,1,none⟩=some (.int .i64 n)) (first | exact ⟨k0',i1'⟩ | exact DS) ((go_at_call 52;refine c1.mono ?_;rintro e w2 ⟨p2,l2,c2,rfl,DS,hside,d5,ld,SC,HF⟩))
          have hD:Below w2.heap.size w2 w2:=Below.refl _ w2
          have HS:Hid _:=hside
          clear c1 hside hW1
          go_wp2_with (go_at_call 16;refine (SC.out _ hD).mono ?_;rintro e w3 ⟨rfl,b3⟩;have hsd:=(b3.block bd ld).trans HS.out;have m5:=row_cell (i:=5) hsd rfl;have f5:=row_free (i:=5) hsd;have HSD:Hid _:=hsd;have B3:Hid (Below w2.heap.size w2 w3):=b3;clear hsd b3)
          go_ret
          exact ⟨rfl,HF.out.2 _ (.slice (some ⟨g,o,none⟩) 0 0) (fun x hx hne=>(Below.heap_setCell _ _ _ _ hne).trans (B3.out.block x hx)) (by rw [World.size_setCell];exact B3.out.size) B3.out.os B3.out.tape B3.out.output (set_row HSD.out) (by rw [List.drop_of_length_le (by have:=HLN.out;omega)];exact LV.none (l:=lf) (by rw [HLN.out];exact HF.out.1)) (fun x hx=>by injection hx with hx;exact ⟨o,by rw [← hx]⟩)⟩
        · have hci:(k:Int)≤(cap:Int):=by omega
          have hcl:(k:Int)≤(k:Int):=by omega
          go_enter Tryz.func23,Tryz.ntmps23
          go_wp2
          go_region_held3 (fun w'=>w'.cell? ⟨bd,0,none⟩=some (.pointer (some ⟨bq,0,none⟩))∧w'.cell? ⟨W.heap.size,1,none⟩=some (.int .i64 n)) (first | exact ⟨k0',i1'⟩ | exact DS) ((go_at_call 52;refine c1.mono ?_;rintro e w2 ⟨p2,l2,c2,rfl,DS,hside,d5,ld,SC,HF⟩))
          have hD:Below w2.heap.size w2 w2:=Below.refl _ w2
          have HS:Hid _:=hside
          clear c1 hside hW1
          go_wp2_with (go_at_call 16;refine (SC.out _ hD).mono ?_;rintro e w3 ⟨rfl,b3⟩;have hsd:=(b3.block bd ld).trans HS.out;have m5:=row_cell (i:=5) hsd rfl;have f5:=row_free (i:=5) hsd;have HSD:Hid _:=hsd;have B3:Hid (Below w2.heap.size w2 w3):=b3;clear hsd b3)
          go_ret
          exact ⟨rfl,HF.out.2 _ (.slice (some ⟨g,o+k * 4,none⟩) 0 (cap - k)) (fun x hx hne=>(Below.heap_setCell _ _ _ _ hne).trans (B3.out.block x hx)) (by rw [World.size_setCell];exact B3.out.size) B3.out.os B3.out.tape B3.out.output (set_row HSD.out) (by have:=LV.drop (l:=lf) (n:=k) (by rw [HLN.out];exact HF.out.1) (by have:=HLN.out;omega);rw [HLN.out,Nat.sub_self] at this;exact this) (fun x hx=>by injection hx with hx;exact ⟨o,by rw [← hx]⟩)⟩
      · have b1:decide (n < 1)=false:=by simp;omega
        have b2:decide ((k:Int) < n)=true:=by simp;omega
        by_cases hck:cap=k
        · subst hck
          have hci:(cap:Int)≤(cap:Int):=by omega
          have hcl:(cap:Int)≤(cap:Int):=by omega
          go_enter Tryz.func23,Tryz.ntmps23
          go_wp2
          go_region_held3 (fun w'=>w'.cell? ⟨bd,0,none⟩=some (.pointer (some ⟨bq,0,none⟩))∧w'.cell? ⟨W.heap.size,1,none⟩=some (.int .i64 n)) (first | exact ⟨k0',i1'⟩ | exact DS) ((go_at_call 52;refine c1.mono ?_;rintro e w2 ⟨p2,l2,c2,rfl,DS,hside,d5,ld,SC,HF⟩))
          have hD:Below w2.heap.size w2 w2:=Below.refl _ w2
          have HS:Hid _:=hside
          clear c1 hside hW1
          go_wp2_with (go_at_call 16;refine (SC.out _ hD).mono ?_;rintro e w3 ⟨rfl,b3⟩;have hsd:=(b3.block bd ld).trans HS.out;have m5:=row_cell (i:=5) hsd rfl;have f5:=row_free (i:=5) hsd;have HSD:Hid _:=hsd;have B3:Hid (Below w2.heap.size w2 w3):=b3;clear hsd b3)
          go_ret
          exact ⟨rfl,HF.out.2 _ (.slice (some ⟨g,o,none⟩) 0 0) (fun x hx hne=>(Below.heap_setCell _ _ _ _ hne).trans (B3.out.block x hx)) (by rw [World.size_setCell];exact B3.out.size) B3.out.os B3.out.tape B3.out.output (set_row HSD.out) (by rw [List.drop_of_length_le (by have:=HLN.out;omega)];exact LV.none (l:=lf) (by rw [HLN.out];exact HF.out.1)) (fun x hx=>by injection hx with hx;exact ⟨o,by rw [← hx]⟩)⟩
        · have hci:(k:Int)≤(cap:Int):=by omega
          have hcl:(k:Int)≤(k:Int):=by omega
          go_enter Tryz.func23,Tryz.ntmps23
          go_wp2
          go_region_held3 (fun w'=>w'.cell? ⟨bd,0,none⟩=some (.pointer (some ⟨bq,0,none⟩))∧w'.cell? ⟨W.heap.size,1,none⟩=some (.int .i64 n)) (first | exact ⟨k0',i1'⟩ | exact DS) ((go_at_call 52;refine c1.mono ?_;rintro e w2 ⟨p2,l2,c2,rfl,DS,hside,d5,ld,SC,HF⟩))
          have hD:Below w2.heap.size w2 w2:=Below.refl _ w2
          have HS:Hid _:=hside
          clear c1 hside hW1
          go_wp2_with (go_at_call 16;refine (SC.out _ hD).mono ?_;rintro e w3 ⟨rfl,b3⟩;have hsd:=(b3.block bd ld).trans HS.out;have m5:=row_cell (i:=5) hsd rfl;have f5:=row_free (i:=5) hsd;have HSD:Hid _:=hsd;have B3:Hid (Below w2.heap.size w2 w3):=b3;clear hsd b3)
          go_ret
          exact ⟨rfl,HF.out.2 _ (.slice (some ⟨g,o+k * 4,none⟩) 0 (cap - k)) (fun x hx hne=>(Below.heap_setCell _ _ _ _ hne).trans (B3.out.block x hx)) (by rw [World.size_setCell];exact B3.out.size) B3.out.os B3.out.tape B3.out.output (set_row HSD.out) (by have:=LV.drop (l:=lf) (n:=k) (by rw [HLN.out];exact HF.out.1) (by have:=HLN.out;omega);rw [HLN.out,Nat.sub_self] at this;exact this) (fun x hx=>by injection hx with hx;exact ⟨o,by rw [← hx]⟩)⟩
    · have b1:decide ((k:Int) < 1)=false:=by simp;omega
      have b2:decide ((ln:Int) < (k:Int))=false:=by simp;omega
      by_cases hck:cap=k
      · subst hck
        have hlc:ln=cap:=by omega
        subst hlc
        have hci:(ln:Int)≤(ln:Int):=by omega
        have hcl:(ln:Int)≤(ln:Int):=by omega
        go_enter Tryz.func23,Tryz.ntmps23
        go_wp2
        go_region_held3 (fun w'=>w'.cell? ⟨bd,0,none⟩=some (.pointer (some ⟨bq,0,none⟩))∧w'.cell? ⟨W.heap.size,1,none⟩=some (.int .i64 (ln:Int))) (first | exact ⟨k0',i1'⟩ | exact DS) ((go_at_call 52;refine c1.mono ?_;rintro e w2 ⟨p2,l2,c2,rfl,DS,hside,d5,ld,SC,HF⟩))
        have hD:Below w2.heap.size w2 w2:=Below.refl _ w2
        have HS:Hid _:=hside
        clear c1 hside hW1
        go_wp2_with (go_at_call 16;refine (SC.out _ hD).mono ?_;rintro e w3 ⟨rfl,b3⟩;have hsd:=(b3.block bd ld).trans HS.out;have m5:=row_cell (i:=5) hsd rfl;have f5:=row_free (i:=5) hsd;have HSD:Hid _:=hsd;have B3:Hid (Below w2.heap.size w2 w3):=b3;clear hsd b3)
        go_ret
        exact ⟨rfl,HF.out.2 _ (.slice (some ⟨g,o,none⟩) 0 0) (fun x hx hne=>(Below.heap_setCell _ _ _ _ hne).trans (B3.out.block x hx)) (by rw [World.size_setCell];exact B3.out.size) B3.out.os B3.out.tape B3.out.output (set_row HSD.out) (by rw [List.drop_of_length_le (by have:=HLN.out;omega)];exact LV.none (l:=lf) (by rw [HLN.out];exact HF.out.1)) (fun x hx=>by injection hx with hx;exact ⟨o,by rw [← hx]⟩)⟩
      · have hci:(k:Int)≤(cap:Int):=by omega
        have hcl:(k:Int)≤(ln:Int):=by omega
        go_enter Tryz.func23,Tryz.ntmps23
        go_wp2
        go_region_held3 (fun w'=>w'.cell? ⟨bd,0,none⟩=some (.pointer (some ⟨bq,0,none⟩))∧w'.cell? ⟨W.heap.size,1,none⟩=some (.int .i64 (k:Int))) (first | exact ⟨k0',i1'⟩ | exact DS) ((go_at_call 52;refine c1.mono ?_;rintro e w2 ⟨p2,l2,c2,rfl,DS,hside,d5,ld,SC,HF⟩))
        have hD:Below w2.heap.size w2 w2:=Below.refl _ w2
        have HS:Hid _:=hside
        clear c1 hside hW1
        go_wp2_with (go_at_call 16;refine (SC.out _ hD).mono ?_;rintro e w3 ⟨rfl,b3⟩;have hsd:=(b3.block bd ld).trans HS.out;have m5:=row_cell (i:=5) hsd rfl;have f5:=row_free (i:=5) hsd;have HSD:Hid _:=hsd;have B3:Hid (Below w2.heap.size w2 w3):=b3;clear hsd b3)
        go_ret
        exact ⟨rfl,HF.out.2 _ (.slice (some ⟨g,o+k * 4,none⟩) (ln - k) (cap - k)) (fun x hx hne=>(Below.heap_setCell _ _ _ _ hne).trans (B3.out.block x hx)) (by rw [World.size_setCell];exact B3.out.size) B3.out.os B3.out.tape B3.out.output (set_row HSD.out) (by have:=LV.drop (l:=lf) (n:=k) (by rw [HLN.out];exact HF.out.1) (by have:=HLN.out;omega);rw [HLN.out] at this;exact this) (fun x hx=>by injection hx with hx;exact ⟨o,by rw [← hx]⟩)⟩
end Go.Proofs.YtljcljipppjnoaaGreatDoor
namespace Go.Proofs.YtljcljipppjnoaaGreatDoor
open Go.RowKit Go.Shelf
set_option maxRecDepth 100000 in
set_option maxHeartbeats 2000000 in
theorem step_any {w0:World} {aL aI:Addr} {m:Int} (B:Base w0 aL aI m) {q:Gh} (hq:q.Ok) {bd:Nat} {st:Option (List Ev)} {O:Nat→Prop} {W:World} (hW:Below w0.heap.size w0 W) (hlow:∀ x,O x→w0.heap.size≤x) (h:SAt aL aI q bd st O W) (hl:(leftOf q st).length≤4804) (k n:Int) (two:Bool) :
    Calls Tryz.prog 23 #[.pointer (some ⟨bd,0,none⟩),.agg #[.int .i64 k,.int .i64 n,.bool two]] W fun e w'=>e=.returned (.bool true)∧∃ st' O',(leftOf q st').length≤4804∧SAt aL aI q bd st' O' w'∧Fp O O' W w':=by
  have fin:∀ {e:Ending} {w':World},(e=.returned (.bool true)∧∃ st' O',st'.length≤(leftOf q st).length∧SAt aL aI q bd (some st') O' w'∧Fp O O' W w')→e=.returned (.bool true)∧∃ st' O',(leftOf q st').length≤4804∧SAt aL aI q bd st' O' w'∧Fp O O' W w':=by
    rintro e w' ⟨rfl,st',O',h1,h2,h3⟩
    exact ⟨rfl,some st',O',Nat.le_trans h1 hl,h2,h3⟩
  by_cases h1:k=1
  · subst h1
    cases hs:leftOf q st with
    | nil=>exact (step_next0 B hq hW hlow h hs n two).mono fun e w' h=>fin h
    | cons ev r=>exact (step_next1 B hq hW hlow h ev r hs (by rw [hs,List.length_cons] at hl;omega) n two).mono fun e w' h=>fin h
  by_cases h2:k=2
  · subst h2
    exact (step_all B hq hW hlow h (by omega) n two).mono fun e w' h=>fin h
  by_cases h3:k=3
  · subst h3
    exact (step_err B hq hW hlow h n two).mono fun e w' h=>fin h
  have b1:(k == (1:Int))=false:=by simpa using h1
  have b2:(k == (2:Int))=false:=by simpa using h2
  have b3:(k == (3:Int))=false:=by simpa using h3
  have H:Hid (SAt aL aI q bd st O W):=h
  clear fin hlow hW hq B h h1 h2 h3
  go_enter Tryz.func23,Tryz.ntmps23
  go_wp2
  go_ret
  have hb:=(Below.refl W.heap.size W).alloc (Nat.le_refl _) (.cells #[.int .i64 k,.int .i64 n,.bool two] 54)
  exact ⟨rfl,st,O,hl,H.out.keep (fun x hx=>hb.block x (H.out.lt x hx)) hb.size,Fp.below hb⟩
def Two (w0:World) (aL aI:Addr) (q u:Gh) (bd be:Nat) (W:World):Prop :=
  ∃ st su O P,SAt aL aI q bd st O W∧SAt aL aI u be su P W∧(leftOf q st).length≤4804∧(leftOf u su).length≤4804∧(∀ x,O x→¬ P x)∧(∀ x,O x→w0.heap.size≤x)∧(∀ x,P x→w0.heap.size≤x)∧Below w0.heap.size w0 W
theorem Two.swap {w0:World} {aL aI:Addr} {q u:Gh} {bd be:Nat} {W:World} (h:Two w0 aL aI q u bd be W):Two w0 aL aI u q be bd W:=by
  obtain ⟨st,su,O,P,h1,h2,h3,h4,h5,h6,h7,h8⟩:=h
  exact ⟨su,st,P,O,h2,h1,h4,h3,fun x hp ho=>h5 x ho hp,h7,h6,h8⟩
theorem Two.below {w0:World} {aL aI:Addr} {q u:Gh} {bd be:Nat} {W w':World} (h:Two w0 aL aI q u bd be W) (hb:Below W.heap.size W w'):Two w0 aL aI q u bd be w':=by
  obtain ⟨st,su,O,P,h1,h2,h3,h4,h5,h6,h7,h8⟩:=h
  exact ⟨st,su,O,P,h1.keep (fun x hx=>hb.block x (h1.lt x hx)) hb.size,h2.keep (fun x hx=>hb.block x (h2.lt x hx)) hb.size,h3,h4,h5,h6,h7,h8.trans (hb.mono h8.size)⟩
theorem Two.base {w0:World} {aL aI:Addr} {q u:Gh} {bd be:Nat} {W:World} (h:Two w0 aL aI q u bd be W):Below w0.heap.size w0 W:=by
  obtain ⟨st,su,O,P,h1,h2,h3,h4,h5,h6,h7,h8⟩:=h
  exact h8
theorem Two.step {w0:World} {aL aI:Addr} {m:Int} (B:Base w0 aL aI m) {q u:Gh} (hq:q.Ok) {bd be:Nat} {W:World} (h:Two w0 aL aI q u bd be W) (k n:Int) (two:Bool) :
    Calls Tryz.prog 23 #[.pointer (some ⟨bd,0,none⟩),.agg #[.int .i64 k,.int .i64 n,.bool two]] W fun e w'=>e=.returned (.bool true)∧Two w0 aL aI q u bd be w':=by
  obtain ⟨st,su,O,P,h1,h2,h3,h4,h5,h6,h7,h8⟩:=h
  refine (step_any B hq h8 h6 h1 h3 k n two).mono ?_
  rintro e w' ⟨rfl,st',O',g1,g2,g3⟩
  exact ⟨rfl,st',su,O',P,g2,h2.keep (g3.other h5 h2.lt) g3.size,g1,h4,g3.apart h5 h2.lt,g3.low h8.size h6,h7,h8.trans (g3.under h8.size h6)⟩
end Go.Proofs.YtljcljipppjnoaaGreatDoor
namespace Go.Proofs.YtljcljipppjnoaaGreatDoor
open Go.RowKit Go.Shelf
def OpsAt (p:Option Addr) (ops:List (Int × Int × Bool)) (W:World):Prop :=
  ops=[]∨∃ g o,p=some ⟨g,o,none⟩∧g < W.heap.size∧∀ i k n t,ops[i]?=some (k,n,t)→W.cell? ⟨g,o+i * 3,none⟩=some (.int .i64 k)∧W.cell? ⟨g,o+i * 3+1,none⟩=some (.int .i64 n)∧W.cell? ⟨g,o+i * 3+2,none⟩=some (.bool t)
def noneOf (tx:ByteArray) (cs:List Int) (fa:Int) (wt:Bool):Gh:=⟨false,tx,cs,fa,wt,.fine ⟨#[]⟩,0⟩
theorem noneOf_ok (tx:ByteArray) (cs:List Int) (fa:Int) (wt:Bool) (h1:tx.size≤1048576) (h2:cs.length≤1048576):(noneOf tx cs fa wt).Ok:=⟨h1,h2,(fun h=>by cases h),fun _=>⟨rfl,rfl⟩⟩
theorem noneOf_left (tx:ByteArray) (cs:List Int) (fa:Int) (wt:Bool):evq (noneOf tx cs fa wt)=[]:=by
  have e:(outText (noneOf tx cs fa wt).o).data.toList=[]:=by
    have:reg ⟨#[]⟩=[]:=by decide
    simp [noneOf,outText,this]
  unfold evq
  rw [e]
  exact events_nil
set_option maxRecDepth 100000 in
set_option maxHeartbeats 4000000 in
theorem pulls_fit (qa qb:Gh) (ha:qa.Ok) (hb:qb.Ok) (hsa:qa.src=true) (hsb:qb.src=true) (ca cb:Option Addr) (pa pb:Nat) (p:Option Addr) (cap:Nat) (ops:List (Int × Int × Bool)) (aL aI:Addr) (m:Int) (W:World)
    (na:NumsAt (.slice ca qa.cs.length pa) qa.cs W) (nb:NumsAt (.slice cb qb.cs.length pb) qb.cs W) (ho:OpsAt p ops W) (hl:ops.length≤1048576) (B0:Base W aL aI m) :
    Calls Tryz.prog 4 #[.agg #[.string qa.tx,.slice ca qa.cs.length pa,.int .i64 qa.fa,.bool qa.wt],.agg #[.string qb.tx,.slice cb qb.cs.length pb,.int .i64 qb.fa,.bool qb.wt],.slice p ops.length cap] W fun e w'=>e=.returned (.bool true)∧Below W.heap.size W w':=by
  obtain ⟨w0,hw0⟩:∃ w0,(W.alloc (.cells #[.string qa.tx,.slice ca qa.cs.length pa,.int .i64 qa.fa,.bool qa.wt] 33)).alloc (.cells #[.string qb.tx,.slice cb qb.cs.length pb,.int .i64 qb.fa,.bool qb.wt] 33)=w0:=⟨_,rfl⟩
  have bw:Below W.heap.size W w0:=by rw [← hw0];exact ((Below.refl _ W).alloc (Nat.le_refl _) _).alloc (by simp) _
  have z0:w0.heap.size=W.heap.size+1+1:=by rw [← hw0];simp
  have xa:w0.heap[W.heap.size]?=some (.cells #[.string qa.tx,.slice ca qa.cs.length pa,.int .i64 qa.fa,.bool qa.wt] 33 (0,0)):=by
    rw [← hw0,Below.heap_alloc _ _ _ (by simp)]
    exact heap_alloc_new W _
  have xb:w0.heap[W.heap.size+1]?=some (.cells #[.string qb.tx,.slice cb qb.cs.length pb,.int .i64 qb.fa,.bool qb.wt] 33 (0,0)):=by
    rw [← hw0]
    exact heap_new _ _ (by simp)
  have B:Base w0 aL aI m:=B0.to bw
  have BOX:Hid (∀ w,Below w0.heap.size w0 w→(w.cell? ⟨W.heap.size,0,none⟩=some (.string qa.tx)∧w.cell? ⟨W.heap.size,1,none⟩=some (.slice ca qa.cs.length pa)∧w.cell? ⟨W.heap.size,2,none⟩=some (.int .i64 qa.fa)∧w.cell? ⟨W.heap.size,3,none⟩=some (.bool qa.wt))∧(w.cell? ⟨W.heap.size+1,0,none⟩=some (.string qb.tx)∧w.cell? ⟨W.heap.size+1,1,none⟩=some (.slice cb qb.cs.length pb)∧w.cell? ⟨W.heap.size+1,2,none⟩=some (.int .i64 qb.fa)∧w.cell? ⟨W.heap.size+1,3,none⟩=some (.bool qb.wt))):=fun w hb=>⟨cells4 ((hb.block _ (by omega)).trans xa),cells4 ((hb.block _ (by omega)).trans xb)⟩
  have hfA:=fun W=>fit_any qa.tx ca qa.cs.length pa qa.fa qa.wt W
  have hfB:=fun W=>fit_any qb.tx cb qb.cs.length pb qb.fa qb.wt W
  have sA:=ha.small
  have sB:=hb.small
  have uA:=ha.cuts
  have uB:=hb.cuts
  rw [show (decide (qa.tx.size≤1048576) && decide (qa.cs.length≤1048576))=true by simp [sA,uA]] at hfA
  rw [show (decide (qb.tx.size≤1048576) && decide (qb.cs.length≤1048576))=true by simp [sB,uB]] at hfB
  have FA:Hid _:=hfA
  have FB:Hid _:=hfB
  obtain ⟨⟨a0,a1,a2,a3⟩,⟨b0,b1,b2,b3⟩⟩:=BOX.out w0 (Below.refl _ _)
  have NA:∀ w,Below w0.heap.size w0 w→NumsAt (.slice ca qa.cs.length pa) qa.cs w:=fun w hb=>na.below (bw.trans (hb.mono bw.size))
  have NB:∀ w,Below w0.heap.size w0 w→NumsAt (.slice cb qb.cs.length pb) qb.cs w:=fun w hb=>nb.below (bw.trans (hb.mono bw.size))
  have hqn:=noneOf_ok qa.tx qa.cs qa.fa qa.wt ha.small ha.cuts
  have C5:Hid (∀ w,Below w0.heap.size w0 w→Calls Tryz.prog 18 #[.agg #[.string qa.tx,.slice ca qa.cs.length pa,.int .i64 qa.fa,.bool qa.wt],.bool true] w fun e w'=>∃ bq,e=.returned (.pointer (some ⟨bq,0,none⟩))∧Hid (∃ O,QAt aL aI (noneOf qa.tx qa.cs qa.fa qa.wt) bq none O w'∧(∀ x,O x→w0.heap.size≤x)∧Below w0.heap.size w0 w')):=fun w hb=>by
    refine (qnew_any aL aI (noneOf qa.tx qa.cs qa.fa qa.wt) _ w (NA w hb) ha.cuts).mono ?_
    rintro e w' ⟨bq,O,rfl,h1,h2,h3⟩
    exact ⟨bq,rfl,O,h1,fun x hx=>Nat.le_trans hb.size (h2 x hx),hb.trans (h3.mono hb.size)⟩
  have C8:Hid (∀ w bq,(∃ O,QAt aL aI (noneOf qa.tx qa.cs qa.fa qa.wt) bq none O w∧(∀ x,O x→w0.heap.size≤x)∧Below w0.heap.size w0 w)→Calls Tryz.prog 19 #[.pointer (some ⟨bq,0,none⟩)] w fun e w'=>e=.returned (.tuple #[.agg #[.int .i64 0,.bool false,.int .i64 0,.string ⟨#[]⟩],.bool false])∧Hid (∃ O,QAt aL aI (noneOf qa.tx qa.cs qa.fa qa.wt) bq (some []) O w'∧(∀ x,O x→w0.heap.size≤x)∧Below w0.heap.size w0 w')):=fun w bq ⟨O,h1,h2,h3⟩=>by
    have hc:=qnext_any B hqn h3 h2 h1
    have e0:leftOf (noneOf qa.tx qa.cs qa.fa qa.wt) none=[]:=noneOf_left _ _ _ _
    rw [e0] at hc
    refine hc.mono ?_
    rintro e w' ⟨rfl,O',g1,g2⟩
    exact ⟨rfl,O',g1,g2.low h3.size h2,h3.trans (g2.under h3.size h2)⟩
  have C9:Hid (∀ w bq X,(∃ O,QAt aL aI (noneOf qa.tx qa.cs qa.fa qa.wt) bq (some []) O w∧(∀ x,O x→w0.heap.size≤x)∧Below w0.heap.size w0 w)→X=w.alloc (.cells #[.int .i64 0,.bool false,.int .i64 0,.string ⟨#[]⟩] 39)→Calls Tryz.prog 20 #[.pointer (some ⟨bq,0,none⟩)] X fun e w'=>e=.returned (.tuple #[.agg #[.int .i64 0,.int .i64 0],.int .i64 (0:Nat)])∧(w'.cell? ⟨w.heap.size,0,none⟩=some (.int .i64 0)∧w'.cell? ⟨w.heap.size,1,none⟩=some (.bool false)∧w'.cell? ⟨w.heap.size,2,none⟩=some (.int .i64 0)∧w'.cell? ⟨w.heap.size,3,none⟩=some (.string ⟨#[]⟩))∧w.heap.size < w'.heap.size∧Hid (Below w0.heap.size w0 w')):=fun w bq X ⟨O,h1,h2,h3⟩ hX=>by
    have hbX:Below w.heap.size w X:=by rw [hX];exact (Below.refl _ w).alloc (Nat.le_refl _) _
    have xX:X.heap[w.heap.size]?=some (.cells #[.int .i64 0,.bool false,.int .i64 0,.string ⟨#[]⟩] 39 (0,0)):=by rw [hX];exact heap_alloc_new w _
    have hlX:=lt_of_block xX
    have h3X:=h3.trans (hbX.mono h3.size)
    refine (qerr_any B hqn h3X h2 (h1.keep (fun x hx=>hbX.block x (h1.lt x hx)) hbX.size)).mono ?_
    rintro e w' ⟨rfl,O',g1,g2⟩
    have he:=(g2.block w.heap.size hlX (fun hh=>by have:=h1.lt _ hh;omega)).trans xX
    exact ⟨rfl,cells4 he,lt_of_block he,h3X.trans (g2.under h3X.size h2)⟩
  have CA:Hid (∀ w,Below w0.heap.size w0 w→Calls Tryz.prog 21 #[.agg #[.string qa.tx,.slice ca qa.cs.length pa,.int .i64 qa.fa,.bool qa.wt]] w fun e w'=>∃ bd,e=.returned (.pointer (some ⟨bd,0,none⟩))∧Hid (∃ O,SAt aL aI qa bd none O w'∧(∀ x,O x→w0.heap.size≤x)∧Below w0.heap.size w0 w')):=fun w hb=>by
    refine (side_any aL aI qa ha hsa _ w (NA w hb)).mono ?_
    rintro e w' ⟨bd,O,rfl,h1,h2,h3⟩
    exact ⟨bd,rfl,O,h1,fun x hx=>Nat.le_trans hb.size (h2 x hx),hb.trans (h3.mono hb.size)⟩
  have CB:Hid (∀ w bd,(∃ O,SAt aL aI qa bd none O w∧(∀ x,O x→w0.heap.size≤x)∧Below w0.heap.size w0 w)→Calls Tryz.prog 21 #[.agg #[.string qb.tx,.slice cb qb.cs.length pb,.int .i64 qb.fa,.bool qb.wt]] w fun e w'=>∃ be ba bb,e=.returned (.pointer (some ⟨be,0,none⟩))∧w'.cell? ⟨bd,0,none⟩=some (.pointer (some ⟨ba,0,none⟩))∧w'.cell? ⟨be,0,none⟩=some (.pointer (some ⟨bb,0,none⟩))∧Hid (Calls Tryz.prog 22 #[.pointer (some ⟨ba,0,none⟩)] w' fun e w2=>e=.returned (.int .i64 0)∧w2=w')∧Hid (Calls Tryz.prog 22 #[.pointer (some ⟨bb,0,none⟩)] w' fun e w2=>e=.returned (.int .i64 0)∧w2=w')∧Hid (Two w0 aL aI qa qb bd be w')):=fun w bd ⟨O,h1,h2,h3⟩=>by
    refine (side_any aL aI qb hb hsb _ w (NB w h3)).mono ?_
    rintro e w' ⟨be,P,rfl,g1,g2,g3⟩
    have h1':SAt aL aI qa bd none O w':=h1.keep (fun x hx=>g3.block x (h1.lt x hx)) g3.size
    obtain ⟨ba,va,Oa,s1,s2,_⟩:=id h1'
    obtain ⟨bb,vb,Ob,t1,t2,_⟩:=id g1
    exact ⟨be,ba,bb,rfl,(cells7 s1).1,(cells7 t1).1,qreads_any s2,qreads_any t2,none,none,O,P,h1',g1,evq_len ha,evq_len hb,(fun x ho hp=>by have:=h1.lt x ho;have:=g2 x hp;omega),h2,(fun x hx=>Nat.le_trans h3.size (g2 x hx)),h3.trans (g3.mono h3.size)⟩
  have CS:Hid (∀ w bd be k n t,Two w0 aL aI qa qb bd be w→Calls Tryz.prog 23 #[.pointer (some ⟨bd,0,none⟩),.agg #[.int .i64 k,.int .i64 n,.bool t]] w fun e w'=>e=.returned (.bool true)∧Hid (Two w0 aL aI qa qb bd be w')):=fun w bd be k n t h=>(Two.step B ha h k n t).mono fun e w' h=>⟨h.1,h.2⟩
  have CU:Hid (∀ w bd be k n t,Two w0 aL aI qa qb bd be w→Calls Tryz.prog 23 #[.pointer (some ⟨be,0,none⟩),.agg #[.int .i64 k,.int .i64 n,.bool t]] w fun e w'=>e=.returned (.bool true)∧Hid (Two w0 aL aI qa qb bd be w')):=fun w bd be k n t h=>(Two.step B hb h.swap k n t).mono fun e w' h=>⟨h.1,Two.swap h.2⟩
  have OPS:Hid (∀ w,Below w0.heap.size w0 w→OpsAt p ops w):=fun w hb=>by
    rcases ho with ho | ⟨g,o,h1,h2,h3⟩
    · exact Or.inl ho
    · have hb':=bw.trans (hb.mono bw.size)
      exact Or.inr ⟨g,o,h1,by have:=hb'.size;omega,fun i k n t hi=>by
        obtain ⟨q1,q2,q3⟩:=h3 i k n t hi
        exact ⟨(hb'.cell (p:=⟨g,o+i * 3,none⟩) h2).trans q1,(hb'.cell (p:=⟨g,o+i * 3+1,none⟩) h2).trans q2,(hb'.cell (p:=⟨g,o+i * 3+2,none⟩) h2).trans q3⟩⟩
  have BW:Hid (Below W.heap.size W w0):=bw
  have hlo:decide ((1048576:Int) < (ops.length:Int))=false:=by simp;omega
  clear hfA hfB sA sB uA uB xa xb NA NB hqn na nb ho B B0 bw ha hb
  go_enter Tryz.func4,Tryz.ntmps4
  go_upto_region 2 with (go_at_call 17;refine (FA.out _).mono ?_;rintro e w1 ⟨rfl,k1⟩)
  have K1:Below w0.heap.size w0 w1:=k1
  clear a0 a1 a2 a3 b0 b1 b2 b3 k1 FA
  obtain ⟨⟨a0,a1,a2,a3⟩,⟨b0,b1,b2,b3⟩⟩:=BOX.out w1 K1
  have KK:Hid _:=K1
  clear K1
  go_upto_region 3 with (go_at_call 17;refine (FB.out _).mono ?_;rintro e w2 ⟨rfl,k2⟩)
  have K2:Below w0.heap.size w0 w2:=KK.out.trans (k2.mono KK.out.size)
  clear a0 a1 a2 a3 b0 b1 b2 b3 k2 FB KK
  obtain ⟨⟨a0,a1,a2,a3⟩,⟨b0,b1,b2,b3⟩⟩:=BOX.out w2 K2
  have KK:Hid _:=K2
  clear K2
  go_upto_region 5 with fail
  go_upto_region 8 with (go_at_call 18;refine (C5.out _ KK.out).mono ?_;rintro e w3 ⟨bq,rfl,HQ⟩)
  clear a0 a1 a2 a3 b0 b1 b2 b3 C5 KK
  go_upto_region 9 with (go_at_call 19;refine (C8.out _ _ HQ.out).mono ?_;rintro e w4 ⟨rfl,HQ4⟩)
  clear C8 HQ
  go_upto_region 10 with (go_at_call 20;refine (C9.out w4 _ _ HQ4.out rfl).mono ?_;rintro e w5 ⟨rfl,⟨e0,e1,e2,e3⟩,le,HK5⟩)
  go_upto_region 12 with fail
  clear C9 e0 e1 e2 e3 HQ4
  obtain ⟨w6,hw6⟩:∃ w6,w5.alloc (.cells #[.int .i64 0,.int .i64 0] 43)=w6:=⟨_,rfl⟩
  have K6:Below w0.heap.size w0 w6:=by rw [← hw6];exact HK5.out.alloc HK5.out.size _
  rw [hw6]
  clear hw6 le HK5
  obtain ⟨⟨a0,a1,a2,a3⟩,⟨b0,b1,b2,b3⟩⟩:=BOX.out w6 K6
  have KK:Hid _:=K6
  clear K6
  go_upto_region 13 with (go_at_call 21;refine (CA.out _ KK.out).mono ?_;rintro e w7 ⟨bd,rfl,HS⟩)
  clear a0 a1 a2 a3 b0 b1 b2 b3 KK CA
  obtain ⟨_,⟨b0,b1,b2,b3⟩⟩:=BOX.out w7 (by obtain ⟨O,_,_,h⟩:=HS.out;exact h)
  go_upto_region 14 with (go_at_call 21;refine (CB.out _ _ HS.out).mono ?_;rintro e w8 ⟨be,ba,bb,rfl,d0,d1,RA,RB,HT⟩)
  clear b0 b1 b2 b3 HS CB BOX
  go_upto_region 17 with (go_at_call 22;refine RA.out.mono ?_;rintro e w9 ⟨rfl,rfl⟩)
  go_upto_region 18 with (go_at_call 22;refine RB.out.mono ?_;rintro e w10 ⟨rfl,rfl⟩)
  clear RA RB d0 d1
  go_wp2
  go_loopg [11,18] ops.length (fun gk _ v wr=>∃ k:Nat,k≤ops.length∧ops.length≤k+gk∧v=.int .i64 k∧Hid (Two w0 aL aI qa qb bd be wr))
  case atStart=>exact ⟨0,Nat.zero_le _,by omega,rfl,HT⟩
  case round =>
    clear HT
    obtain ⟨k,hk,hgk,rfl,HT⟩:=hrel
    by_cases hlt:k < ops.length
    · obtain ⟨⟨kk,nn,tt⟩,hop⟩:∃ x,ops[k]?=some x:=⟨ops[k],List.getElem?_eq_getElem hlt⟩
      obtain ⟨g,o,rfl,lg,hcs⟩:∃ g o,p=some ⟨g,o,none⟩∧g < wr.heap.size∧∀ i k n t,ops[i]?=some (k,n,t)→wr.cell? ⟨g,o+i * 3,none⟩=some (.int .i64 k)∧wr.cell? ⟨g,o+i * 3+1,none⟩=some (.int .i64 n)∧wr.cell? ⟨g,o+i * 3+2,none⟩=some (.bool t):=by
        rcases OPS.out wr HT.out.base with h | h
        · rw [h] at hlt;cases hlt
        · exact h
      obtain ⟨c0,c1,c2⟩:=hcs k kk nn tt hop
      have hlt':(k:Int) < (ops.length:Int):=by omega
      clear hcs hop OPS
      cases tt with
      | true =>
        go_wp2_with (go_at_call 23;refine (CU.out _ _ _ _ _ _ HT.out).mono ?_;rintro e w11 ⟨rfl,HT2⟩)
        go_roundg (gk - 1)
        case measure=>omega
        case rel=>exact ⟨k+1,by omega,by omega,by go_num,HT2⟩
      | false =>
        go_wp2_with (go_at_call 23;refine (CS.out _ _ _ _ _ _ HT.out).mono ?_;rintro e w11 ⟨rfl,HT2⟩)
        go_roundg (gk - 1)
        case measure=>omega
        case rel=>exact ⟨k+1,by omega,by omega,by go_num,HT2⟩
    · have hlt':decide ((k:Int) < (ops.length:Int))=false:=by simp;omega
      clear OPS CU
      go_upto_region 29 with (go_at_call 23;refine (CS.out _ _ _ 2 0 false HT.out).mono ?_;rintro e w11 ⟨rfl,HT2⟩)
      go_wp2_with (go_at_call 23;refine (CS.out _ _ _ 3 0 false HT2.out).mono ?_;rintro e w12 ⟨rfl,HT3⟩)
      go_ret
      exact ⟨rfl,BW.out.trans (HT3.out.base.mono BW.out.size)⟩
set_option maxRecDepth 100000 in
set_option maxHeartbeats 2000000 in
theorem pulls_unfit (ta tb:ByteArray) (ca cb:Option Addr) (la lb pa pb:Nat) (fa fb:Int) (wa wb:Bool) (p:Option Addr) (ln cap:Nat) (W:World) (hn:¬ ((ta.size≤1048576∧la≤1048576)∧(tb.size≤1048576∧lb≤1048576)∧ln≤1048576)) :
    Calls Tryz.prog 4 #[.agg #[.string ta,.slice ca la pa,.int .i64 fa,.bool wa],.agg #[.string tb,.slice cb lb pb,.int .i64 fb,.bool wb],.slice p ln cap] W fun e w'=>e=.returned (.bool true)∧Below W.heap.size W w':=by
  obtain ⟨w0,hw0⟩:∃ w0,(W.alloc (.cells #[.string ta,.slice ca la pa,.int .i64 fa,.bool wa] 33)).alloc (.cells #[.string tb,.slice cb lb pb,.int .i64 fb,.bool wb] 33)=w0:=⟨_,rfl⟩
  have bw:Below W.heap.size W w0:=by rw [← hw0];exact ((Below.refl _ W).alloc (Nat.le_refl _) _).alloc (by simp) _
  have z0:w0.heap.size=W.heap.size+1+1:=by rw [← hw0];simp
  have xa:w0.heap[W.heap.size]?=some (.cells #[.string ta,.slice ca la pa,.int .i64 fa,.bool wa] 33 (0,0)):=by
    rw [← hw0,Below.heap_alloc _ _ _ (by simp)]
    exact heap_alloc_new W _
  have xb:w0.heap[W.heap.size+1]?=some (.cells #[.string tb,.slice cb lb pb,.int .i64 fb,.bool wb] 33 (0,0)):=by
    rw [← hw0]
    exact heap_new _ _ (by simp)
  have BB:Hid (∀ w,Below w0.heap.size w0 w→w.cell? ⟨W.heap.size+1,0,none⟩=some (.string tb)∧w.cell? ⟨W.heap.size+1,1,none⟩=some (.slice cb lb pb)∧w.cell? ⟨W.heap.size+1,2,none⟩=some (.int .i64 fb)∧w.cell? ⟨W.heap.size+1,3,none⟩=some (.bool wb)):=fun w hb=>cells4 ((hb.block _ (by omega)).trans xb)
  obtain ⟨a0,a1,a2,a3⟩:=cells4 xa
  have hfA:=fun W=>fit_any ta ca la pa fa wa W
  have hfB:=fun W=>fit_any tb cb lb pb fb wb W
  obtain ⟨va,hva⟩:∃ va,(decide (ta.size≤1048576) && decide (la≤1048576))=va:=⟨_,rfl⟩
  obtain ⟨vb,hvb⟩:∃ vb,(decide (tb.size≤1048576) && decide (lb≤1048576))=vb:=⟨_,rfl⟩
  have hall:va=false∨vb=false∨decide ((1048576:Int) < (ln:Int))=true:=by
    cases va with
    | false=>exact Or.inl rfl
    | true =>
      cases vb with
      | false=>exact Or.inr (Or.inl rfl)
      | true =>
        right;right
        simp at hva hvb
        simp
        omega
  rw [hva] at hfA
  rw [hvb] at hfB
  have FA:Hid _:=hfA
  have FB:Hid _:=hfB
  have BW:Hid (Below W.heap.size W w0):=bw
  clear hfA hfB xa xb hva hvb hn bw
  have hdr:decide ((1048576:Int) < (ln:Int))=true∨decide ((1048576:Int) < (ln:Int))=false:=by cases decide ((1048576:Int) < (ln:Int)) <;> simp
  cases va <;> cases vb <;> rcases hdr with hd | hd
  all_goals first
    | (exfalso;simp [hd] at hall;done)
    | (clear hall
       go_enter Tryz.func4,Tryz.ntmps4
       go_upto_region 2 with (go_at_call 17;refine (FA.out _).mono ?_;rintro e w1 ⟨rfl,k1⟩)
       obtain ⟨b0,b1,b2,b3⟩:=BB.out w1 k1
       go_upto_region 3 with (go_at_call 17;refine (FB.out _).mono ?_;rintro e w2 ⟨rfl,k2⟩)
       have K2:Hid (Below w0.heap.size w0 w2):=Below.trans k1 (k2.mono k1.size)
       clear a0 a1 a2 a3 b0 b1 b2 b3 k2 k1 FB FA
       go_wp2
       go_ret
       exact ⟨rfl,BW.out.trans (K2.out.mono BW.out.size)⟩)
end Go.Proofs.YtljcljipppjnoaaGreatDoor
