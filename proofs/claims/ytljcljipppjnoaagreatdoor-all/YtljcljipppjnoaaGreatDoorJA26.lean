import Derived.Test.YtljcljipppjnoaaGreatDoorJA24
import Derived.Test.YtljcljipppjnoaaGreatDoorJA25
namespace Go.Proofs.YtljcljipppjnoaaGreatDoor
open Go.RowKit Go.Shelf
def telL (b0 bdo:Nat):Tel where
  kd:=82
  kl:=61
  bd:=b0
  bl:=bdo
  Own:=fun W b=>b=bdo∨Own b0 W b
  Told:=fun S W=>Told b0 (flat S) W∧W.heap[bdo]?=some (.cells #[doV 82 b0] 116 (0,0))
theorem telL_kt {b0 bdo:Nat} {acc:List Ev} {W w':World} (hT:Told b0 acc W) (hd:W.heap[bdo]?=some (.cells #[doV 82 b0] 116 (0,0))) (h:Kp b0 none W.heap.size W w'):Kt (telL b0 bdo) none W.heap.size W w'∧w'.heap[bdo]?=some (.cells #[doV 82 b0] 116 (0,0)) :=
  ⟨⟨h.os,h.tape,h.output,h.size,fun b hb hx ho=>h.block b hb hx (fun h'=>ho (Or.inr h')),fun b hb ho=>ho.imp id (h.own b hb)⟩,(h.block bdo (lt_of_block hd) (by simp) (hT.off hd (by decide) (by decide))).trans hd⟩
set_option maxRecDepth 100000 in
set_option maxHeartbeats 2000000 in
theorem lleaf_any (b0 bdo:Nat) (acc:List Ev) (t:List UInt8) (x y:Nat) (W:World) (hT:Told b0 acc W) (hd:W.heap[bdo]?=some (.cells #[doV 82 b0] 116 (0,0))) (ht:t ≠ []) (hlen:acc.length≤1099511627776) :
    Calls Tryz.prog 61 #[.string ⟨t.toArray⟩,.agg #[.int .i64 x,.int .i64 y],.pointer (some ⟨bdo,0,none⟩)] W fun e w'=>e=.returned (.tuple #[])∧Told b0 (acc++[⟨8,false,0,t⟩]) w'∧Kp b0 none W.heap.size W w':=by
  obtain ⟨W1,hW1⟩:∃ W1,W.alloc (.cells #[.int .i64 x,.int .i64 y] 119)=W1:=⟨_,rfl⟩
  have hb1:Below W.heap.size W W1:=by rw [← hW1];exact (Below.refl _ W).alloc (Nat.le_refl _) _
  have hb0:=hT.lt
  have c1:=etext_any 82 do_listed b0 acc t W1 (hT.below hb1) hlen
  rw [if_neg ht] at c1
  have k1:=cell_of_one ((hb1.block bdo (lt_of_block hd)).trans hd)
  unfold doV at k1
  have HE:Hid (∀ w',Kp b0 none W1.heap.size W1 w'→Kp b0 none W.heap.size W w'):=fun w' h=>(Kp.below hb1 hb0).trans (h.mono hb1.size)
  generalize acc++[⟨8,false,0,t⟩]=A at c1 ⊢
  clear hT hd hb1
  go_enter Tryz.func61,Tryz.ntmps61
  go_wp2_with (go_at_call 62;refine c1.mono ?_;rintro e w2 ⟨rfl,T2,K2⟩)
  go_end0
  exact ⟨rfl,T2,HE.out _ K2⟩
theorem telL_ok (b0 bdo:Nat):(telL b0 bdo).Ok where
  ed:=enters_of Tryz.func82 (by kernel_rfl) rfl
  el:=enters_of Tryz.func61 (by kernel_rfl) rfl
  lt:=fun acc W hT b hb=>by
    rcases hb with rfl | hb
    · exact lt_of_block hT.2
    · exact hT.1.own_lt hb
  keep:=fun acc W w' hT hk=>by
    have h0:w'.heap[b0]?=W.heap[b0]?:=hk b0 (Or.inr (Or.inl rfl))
    exact ⟨⟨hT.1.keep fun b ho=>hk b (Or.inr ho),(hk bdo (Or.inl rfl)).trans hT.2⟩,fun b ho=>ho.imp id (Own.same h0 b).1⟩
  typ:=fun acc W hT b hb=>by
    rcases hb with rfl | hb
    · exact ⟨_,hT.2,fun c T fz h=>by injection h with _ h _;subst h;exact ⟨by decide,by decide⟩⟩
    · obtain ⟨c,T,fz,h1,h2⟩:=hT.1.own_type hb
      refine ⟨_,h1,fun c' T' fz' h=>?_⟩
      injection h with _ h _
      subst h
      rcases h2 with rfl | rfl <;> exact ⟨by decide,by decide⟩
  doc:=fun acc ev W hT hlen=>by
    refine (do_any b0 (flat acc) ev W hT.1 (by rw [flat_len];exact hlen)).mono ?_
    rintro e w' ⟨rfl,T,K⟩
    obtain ⟨k1,k2⟩:=telL_kt hT.1 hT.2 K
    exact ⟨rfl,⟨by rw [flat_app];exact T,k2⟩,k1⟩
  lfc:=fun acc t x y W hT ht hlen=>by
    refine (lleaf_any b0 bdo (flat acc) t x y W hT.1 hT.2 ht (by rw [flat_len];exact hlen)).mono ?_
    rintro e w' ⟨rfl,T,K⟩
    obtain ⟨k1,k2⟩:=telL_kt hT.1 hT.2 K
    exact ⟨rfl,⟨by rw [flat_app];exact T,k2⟩,k1⟩
set_option maxRecDepth 100000 in
set_option maxHeartbeats 2000000 in
theorem blocks_lists (m:Int):ListsC 59 (fun t=>blocksAt 3 (linesL [] t)) 6 m:=by
  have hmf:∀ (fn:Fn) (first cap:Array Value) (w:World),(Instr.makeFunc fn first cap).run Tryz.prog w=.ok (.func fn first cap) w:=fun _ _ _ _=>rfl
  intro b0 t W hT ht hg hm
  have hb0:=hT.lt
  obtain ⟨W1,hW1⟩:∃ W1,W.alloc (.cells #[.func (.func 82) #[] #[.pointer (some ⟨b0,0,none⟩)]] 116)=W1:=⟨_,rfl⟩
  have hb1:Below W.heap.size W W1:=by rw [← hW1];exact (Below.refl _ W).alloc (Nat.le_refl _) _
  have x1:W1.heap[W.heap.size]?=some (.cells #[.func (.func 82) #[] #[.pointer (some ⟨b0,0,none⟩)]] 116 (0,0)):=by rw [← hW1];exact heap_alloc_new W _
  have hT1:(telL b0 W.heap.size).Told [] W1:=⟨hT.below hb1,x1⟩
  have hc:=dEach_any (telL b0 W.heap.size) (telL_ok b0 W.heap.size) t m W1 hT1 ht ((hb1.cell (p:=⟨6,0,none⟩) (by show 6 < W.heap.size;omega)).trans hm)
  show Calls _ _ _ _ (fun e w'=>e=.returned (.tuple #[])∧Told b0 (blocksAt 3 (linesL [] t)) w'∧Kp b0 none W.heap.size W w')
  have hc2:Calls Tryz.prog 60 #[.string ⟨t.toArray⟩,.func (.func 82) #[] #[.pointer (some ⟨b0,0,none⟩)],.func (.func 61) #[] #[.pointer (some ⟨W.heap.size,0,none⟩)]] W1 fun e w'=>e=.returned (.tuple #[])∧Told b0 (blocksAt 3 (linesL [] t)) w'∧Kp b0 none W.heap.size W w':=by
    refine hc.mono ?_
    rintro e w' ⟨rfl,⟨S,n,s1,s2⟩,K⟩
    refine ⟨rfl,by rw [← s1.flat];exact s2.1,(Kp.below hb1 hb0).trans ⟨K.os,K.tape,K.output,K.size,fun b hb hx ho=>K.block b (Nat.lt_of_lt_of_le hb hb1.size) hx (fun h=>?_),fun b hb ho=>?_⟩⟩
    · rcases h with h | h
      · have:b=W.heap.size:=h
        omega
      · exact ho h
    · rcases K.own b (Nat.lt_of_lt_of_le hb hb1.size) (Or.inr ho) with h | h
      · have:b=W.heap.size:=h
        omega
      · exact h
  have k1:=cell_of_one x1
  generalize blocksAt 3 (linesL [] t)=bs at hc2 ⊢
  clear hc hT1 hT hm x1 hb1 hg
  go_enter Tryz.func59,Tryz.ntmps59
  go_wp2_with (go_at_call 60;refine hc2.mono ?_;rintro e w2 ⟨rfl,T2,K2⟩)
  go_end0
  exact ⟨rfl,T2,K2⟩
def docBl (s:ByteArray):List Ev:=blocksAt 3 (linesL [] (reg s))
set_option maxRecDepth 100000 in
set_option maxHeartbeats 1000000 in
theorem dBlocks_any (s:ByteArray) (m:Int) (W:World) (hs:s.size≤1048576) (hm:W.cell? ⟨6,0,none⟩=some (.int .i64 m)) :
    Calls Tryz.prog 35 #[.string s] W fun e w'=>∃ v,e=.returned v∧w'.ownsRow W.heap.size 92 4 v (docBl s).length (evCs (docBl s))∧Below W.heap.size W w':=by
  have hc:Calls Tryz.prog 58 #[.string s,.func (.func 59) #[] #[]] W fun e w'=>∃ v,e=.returned v∧w'.ownsRow W.heap.size 92 4 v (docBl s).length (evCs (docBl s))∧Below W.heap.size W w' :=
    listed_any 59 (enters_of Tryz.func59 (by kernel_rfl) rfl) (fun t=>blocksAt 3 (linesL [] t)) 6 m (blocks_lists m) s W hs hm
  generalize docBl s=bs at hc ⊢
  go_enter Tryz.func35,Tryz.ntmps35
  go_wp2_with (go_at_call 58;refine hc.mono ?_;rintro e w3 ⟨v,rfl,hown,hb⟩)
  go_ret
  exact ⟨v,rfl,hown,hb⟩
end Go.Proofs.YtljcljipppjnoaaGreatDoor
namespace Go.Proofs.YtljcljipppjnoaaGreatDoor
open Go.RowKit Go.Shelf
set_option maxRecDepth 100000 in
theorem pBlocks_any (s:ByteArray) (m:Int) (W:World) (hs:s.size≤1048576) (hm:W.cell? ⟨6,0,none⟩=some (.int .i64 m)) :
    Calls Tryz.prog 12 #[.string s] W fun e w'=>∃ v,e=.returned v∧w'.ownsRow W.heap.size 39 4 v (docBl s).length (evCs (docBl s))∧Below W.heap.size W w':=by
  have c1:=dBlocks_any s m W hs hm
  have hl:(docBl s).length≤1099511627776:=by
    have h1:=blocksAt_le 3 (linesL [] (reg s))
    have h2:=tot_len (linesL [] (reg s))
    have h3:=tot_lines (reg s)
    have h4:=reg_len s
    unfold docBl
    omega
  have c2:=fun v w (hB:W.heap.size≤w.heap.size) (h:w.ownsRow W.heap.size 92 4 v (docBl s).length (evCs (docBl s)))=>pevents_any W.heap.size v (docBl s) w hB h hl
  generalize docBl s=bs at c1 c2 hl ⊢
  go_enter Tryz.func12,Tryz.ntmps12
  go_wp2_with (first | (go_at_call 35;refine c1.mono ?_;rintro e w1 ⟨v,rfl,own1,b1⟩) | (go_at_call 34;refine (c2 v w1 b1.size own1).mono ?_;rintro e w2 ⟨v2,rfl,own2,b2⟩))
  go_ret
  exact ⟨v2,rfl,Joins.ownsRow_le own2 b1.size,b1.trans b2⟩
end Go.Proofs.YtljcljipppjnoaaGreatDoor
