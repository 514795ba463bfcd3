import Derived.Test.YtljcljipppjnoaaGreatDoorJA07
import Derived.Test.YtljcljipppjnoaaGreatDoorJA09
import Derived.Test.YtljcljipppjnoaaGreatDoorJA11
import Derived.Test.YtljcljipppjnoaaGreatDoorJA12
import Derived.Test.YtljcljipppjnoaaGreatDoorJA13
namespace Go.Proofs.YtljcljipppjnoaaGreatDoor
open Go.RowKit
structure Glob (w:World) (aL aI:Addr):Prop where
  long:w.cell? ⟨1,0,none⟩=some (.iface 292 (.pointer (some aL)))
  idle:w.cell? ⟨2,0,none⟩=some (.iface 292 (.pointer (some aI)))
  type:w.cell? ⟨3,0,none⟩=some (.iface 200 (.agg #[.pointer (some ⟨12,98,none⟩)]))
  other:∀ W:World,(∀ b:Nat,b < w.heap.size→W.heap[b]?=w.heap[b]?)→(binOp .eql 98 (.iface 292 (.pointer (some aI))) (.iface 292 (.pointer (some aL)))).run Tryz.prog W=.ok (.bool false) W
theorem Glob.below {w W:World} {aL aI:Addr} (h:Glob w aL aI) (hb:Below w.heap.size w W):Glob W aL aI :=
  ⟨(hb.cell (lt_cell h.long)).trans h.long,(hb.cell (lt_cell h.idle)).trans h.idle,(hb.cell (lt_cell h.type)).trans h.type,fun W' hW'=>h.other W' fun b hl=>(hW' b (Nat.lt_of_lt_of_le hl hb.size)).trans (hb.block b hl)⟩
def Tells (v:Value) (a k:Int) (w:World):Prop :=
  ∀ W,Below w.heap.size w W→Calls Tryz.prog 49 #[v] W fun e w'=>e=.returned (.agg #[.int .i64 a,.int .i64 k])∧Below W.heap.size W w'
theorem gat_size {fa:Int} {wt:Bool} {s:ByteArray} {n:Nat}:∀ {f:Nat} {tx:ByteArray} {cs:List Int} {rd:Nat} {acc:ByteArray} {idle:Nat},gat fa wt f tx cs rd acc idle=some (.fine s,n)→s.size≤300:=by
  intro f
  induction f with
  | zero=>intro tx cs rd acc idle h;cases h
  | succ f ih =>
    intro tx cs rd acc idle h
    unfold gat at h
    split at h
    · cases h
    split at h
    · cases h
    rename_i hl
    split at h
    · simp only [Option.some.injEq,Prod.mk.injEq,Out.fine.injEq] at h
      rw [← h.1,ByteArray.size_append]
      omega
    split at h
    · split at h
      · cases h
      · exact ih h
    · exact ih h
set_option maxHeartbeats 1000000 in
theorem pgather_nil (w:World) :
    Calls Tryz.prog 77 #[.nilIface] w fun e w'=>e=.returned (.tuple #[.string ⟨#[]⟩,.nilIface])∧Below w.heap.size w w':=by
  have hc:=text_any ⟨#[]⟩ w (by decide)
  have he:(reg ⟨#[]⟩).toArray=#[]:=by decide
  rw [he] at hc
  go_enter Tryz.func77,Tryz.ntmps77
  go_wp2_with (first | (go_at_call 98;go_in) | (go_at_call 81;refine hc.mono ?_;rintro e w1 ⟨rfl,hb⟩))
  go_ret2
  exact ⟨rfl,hb⟩
set_option maxHeartbeats 1000000 in
theorem pgather_any (b f:Nat) (tx:ByteArray) (cv:Value) (cs:List Int) (fa:Int) (wt:Bool) (o:Out) (n:Nat) (aL aI:Addr) (w:World) (h:SrcAt b tx cv fa wt 0 false w) (hcs:CutsOK b cv cs w) (hts:tx.size≤4611686018427387904) (hf:f≤1099511627776)
    (hg:gat fa wt f tx cs 0 ByteArray.empty 0=some (o,n)) (hb5:1 ≠ b∧2 ≠ b∧3 ≠ b) (B:Nat) (hB:B≤b) (hBw:B≤w.heap.size) (w0:World) (G:Glob w0 aL aI) (hw0:w0.heap.size=B) (k0:Below B w0 w) :
    Calls Tryz.prog 77 #[.iface 84 (.pointer (some ⟨b,0,none⟩))] w fun e w' =>
      (∃ v,e=.returned (.tuple #[.string (outText o),v])∧Tells v (outErr o) (outN o) w')∧(∃ tx' cv' ov',SrcAt b tx' cv' fa wt n ov' w')∧Below B w w':=by
  have Gw:Glob w aL aI:=G.below (hw0 ▸ k0)
  have hall:=all_any b f tx cv cs fa wt o n aL aI w h hcs hts hf hg ⟨hb5.1,hb5.2.1⟩ Gw.long Gw.idle
  have Gl:∀ W,Below B w W→Glob W aL aI:=fun W hW=>G.below (hw0 ▸ k0.trans hW)
  have hsz:∀ s,o=.fine s→s.size≤35184372088832:=fun s e=>by subst e;have:=gat_size hg;omega
  clear hg hts hcs h
  cases o with
  | fine s =>
    have hc:=fun W=>text_any s W (hsz s rfl)
    clear hsz
    go_enter Tryz.func77,Tryz.ntmps77
    go_wp2_with (go_at_call 98;refine hall.mono ?_)
    rintro e w1 ⟨rfl,⟨tx',cv',ov',hs⟩,hk⟩
    go_wp2_with (go_at_call 81;refine (hc w1).mono ?_)
    rintro e w2 ⟨rfl,hb2⟩
    go_wp2
    go_ret2
    refine ⟨⟨_,rfl,fun W hW=>of_nil W⟩,⟨tx',cv',ov',hs.below hb2 hs.lt⟩,(hk.below hB hBw).trans (hb2.mono (by have:=hk.size;omega))⟩
  | long =>
    clear hsz
    go_enter Tryz.func77,Tryz.ntmps77
    go_wp2_with (go_at_call 98;refine hall.mono ?_)
    rintro e w1 ⟨rfl,hs,hk⟩
    go_wp2
    go_ret2
    refine ⟨⟨_,rfl,fun W hW=>of_long aL W (Gl W ((hk.below hB hBw).trans (hW.mono (by have:=hk.size;omega)))).long⟩,hs,hk.below hB hBw⟩
  | idle =>
    clear hsz
    go_enter Tryz.func77,Tryz.ntmps77
    go_wp2_with (go_at_call 98;refine hall.mono ?_)
    rintro e w1 ⟨rfl,hs,hk⟩
    go_wp2
    go_ret2
    refine ⟨⟨_,rfl,fun W hW=>?_⟩,hs,hk.below hB hBw⟩
    have GW:=Gl W ((hk.below hB hBw).trans (hW.mono (by have:=hk.size;omega)))
    exact of_idle aL aI W GW.long GW.idle GW.other
  | fail k =>
    clear hsz
    go_enter Tryz.func77,Tryz.ntmps77
    go_wp2_with (go_at_call 98;refine hall.mono ?_)
    rintro e w1 ⟨⟨gE,gO,r,rfl,x1,x2,x3,x4⟩,hs,hk⟩
    go_wp2
    go_ret2
    refine ⟨⟨_,rfl,fun W hW=>?_⟩,hs,hk.below hB hBw⟩
    have GW:=Gl W ((hk.below hB hBw).trans (hW.mono (by have:=hk.size;omega)))
    have y1:=(hW.block gE (Array.getElem?_eq_some_iff.1 x1).1).trans x1
    exact of_read gE k ⟨gO,0,none⟩ W GW.type (by rw [Lib.cell_of_heap y1];rfl) (by rw [Lib.cell_of_heap y1];rfl)
end Go.Proofs.YtljcljipppjnoaaGreatDoor
namespace Go.Proofs.YtljcljipppjnoaaGreatDoor
open Go.RowKit
theorem told_put {w:World} {n:Nat} {a0 a1:Value} {t:TypeId} (x y:Value) (h:w.heap[n]?=some (.cells #[a0,a1] t (0,0))) :
    (w.setCell ⟨n,0,none⟩ x).cell? ⟨n,0,none⟩=some x∧((w.setCell ⟨n,0,none⟩ x).setCell ⟨n,1,none⟩ y).cell? ⟨n,1,none⟩=some y:=by
  have h2:=Joins.block_setCell (i:=0) h x
  have h3:=Joins.block_setCell (i:=1) h2 y
  exact ⟨by rw [Lib.cell_of_heap h2];rfl,by rw [Lib.cell_of_heap h3];rfl⟩
set_option maxHeartbeats 1000000 in
theorem plain_none (v:Value) (tx:ByteArray) (cv:Value) (fa:Int) (wt:Bool) (hv:v=.agg #[.string tx,cv,.int .i64 fa,.bool wt]) (hcv:∃ ca n cap,cv=.slice ca n cap) (w:World) :
    Calls Tryz.prog 55 #[v,.bool true] w fun e w'=>e=.returned (.tuple #[.string ⟨#[]⟩,.agg #[.int .i64 0,.int .i64 0],.int .i64 0])∧Below w.heap.size w w':=by
  obtain ⟨ca,n0,cp,rfl⟩:=hcv
  subst hv
  have h1:=fun W=>pgather_nil W
  have h2:=fun W=>of_nil W
  go_enter Tryz.func55,Tryz.ntmps55
  go_wp2_with (first | (go_at_call 77;refine (h1 _).mono ?_))
  rintro e w1 ⟨rfl,b1⟩
  have z1:=b1.size
  simp at z1
  go_wp2_with (first | (go_at_call 49;refine (h2 _).mono ?_))
  rintro e w2 ⟨rfl,b2⟩
  have z2:=b2.size
  have p2:Below (w.heap.size+2) _ w2:=(b1.mono (by simp)).trans (b2.mono (by omega))
  have t0:=p2.block (w.heap.size+1) (by omega)
  rw [heap_new _ _ (by simp)] at t0
  have c0:w2.cell? ⟨w.heap.size+1,0,none⟩=some (.int .i64 0):=by rw [Lib.cell_of_heap t0];rfl
  have c1:w2.cell? ⟨w.heap.size+1,1,none⟩=some (.int .i64 0):=by rw [Lib.cell_of_heap t0];rfl
  have f0:=Lib.frozen_of_heap t0 0
  have f1:=Lib.frozen_of_heap t0 1
  obtain ⟨e0,e1⟩:=told_put (.int .i64 0) (.int .i64 0) t0
  have b0:Below w.heap.size w w2:=(((Below.refl _ w).alloc (Nat.le_refl _) _).alloc (by simp) _).trans (p2.mono (by omega))
  clear h1 h2 b1 b2 p2 t0
  go_wp2
  exact bodyPost_ret (v:=.tuple #[.string ⟨#[]⟩,.agg #[.int .i64 0,.int .i64 0],.int .i64 0]) (by simp [results,Tryz.results55,go_sem,e0,e1]) rfl ⟨rfl,(b0.setCell (p:=⟨w.heap.size+1,0,none⟩) (by show _≤w.heap.size+1;omega) _).setCell (p:=⟨w.heap.size+1,1,none⟩) (by show _≤w.heap.size+1;omega) _⟩
def gathering (v:Array Value) (w:World):World:=(w.alloc (.cells v 33)).alloc (.cells #[.int .i64 0,.int .i64 0] 43)
set_option maxHeartbeats 2000000 in
theorem plain_some (f:Nat) (tx:ByteArray) (cv:Value) (cs:List Int) (fa:Int) (wt:Bool) (o:Out) (n:Nat) (aL aI:Addr) (w:World) (h:NumsAt cv cs w) (hl:cs.length≤1048576) (hts:tx.size≤4611686018427387904) (hf:f≤1099511627776)
    (hg:gat fa wt f tx cs 0 ByteArray.empty 0=some (o,n)) (G:Glob w aL aI) :
    Calls Tryz.prog 55 #[.agg #[.string tx,cv,.int .i64 fa,.bool wt],.bool false] w fun e w'=>e=.returned (.tuple #[.string (outText o),.agg #[.int .i64 (outErr o),.int .i64 (outN o)],.int .i64 n])∧Below w.heap.size w w':=by
  obtain ⟨ca,n0,cp,hcv⟩:∃ ca n0 cp,cv=.slice ca n0 cp:=by
    rcases h with ⟨_,ca,cap,rfl⟩ | ⟨g,o,cap,rfl,_⟩
    · exact ⟨_,_,_,rfl⟩
    · exact ⟨_,_,_,rfl⟩
  subst hcv
  have kw:Below w.heap.size w (gathering #[.string tx,.slice ca n0 cp,.int .i64 fa,.bool wt] w):=((Below.refl _ w).alloc (Nat.le_refl _) _).alloc (by simp) _
  have hw2:(gathering #[.string tx,.slice ca n0 cp,.int .i64 fa,.bool wt] w).heap.size=w.heap.size+2:=by simp [gathering]
  have hn2:NumsAt (.slice ca n0 cp) cs (gathering #[.string tx,.slice ca n0 cp,.int .i64 fa,.bool wt] w):=by
    rcases h with h | ⟨g,o,cap,h1,h2,h3⟩
    · exact Or.inl h
    · refine Or.inr ⟨g,o,cap,h1,by omega,fun j c hj=>?_⟩
      rw [← h3 j c hj]
      exact World.cell?_of_block (kw.block g h2)
  have hsrc:=source_any tx (.slice ca n0 cp) cs fa wt _ hn2 hl
  have hGl:=lt_cell G.long
  have hGi:=lt_cell G.idle
  have hGt:=lt_cell G.type
  have hpg:=fun (b:Nat) (cv':Value) (W:World) (h1:SrcAt b tx cv' fa wt 0 false W) (h2:CutsOK b cv' cs W) (hb:w.heap.size+2≤b) (hk:Below (w.heap.size+2) (gathering #[.string tx,.slice ca n0 cp,.int .i64 fa,.bool wt] w) W) =>
    pgather_any b f tx cv' cs fa wt o n aL aI W h1 h2 hts hf hg ⟨by omega,by omega,by omega⟩ (w.heap.size+2) hb (by have:=hk.size;omega) _ (G.below kw) hw2 hk
  generalize outText o=ot at hpg ⊢
  generalize outErr o=oe at hpg ⊢
  generalize outN o=on at hpg ⊢
  have HP:Hid _:=hpg
  have KW:Hid (Below w.heap.size w (gathering #[.string tx,.slice ca n0 cp,.int .i64 fa,.bool wt] w)):=kw
  clear hpg G hg hts hf hn2 h hl hGl hGi hGt kw hw2
  unfold gathering at hsrc
  go_enter Tryz.func55,Tryz.ntmps55
  go_wp2_with (go_at_call 45;refine hsrc.mono ?_)
  rintro e w1 ⟨b,cv',rfl,hb,s1,c1,k1⟩
  simp only [World.size_alloc] at hb
  have hc1:=HP.out b cv' w1 s1 c1 hb (k1.mono (by simp))
  go_wp2_with (go_at_call 77;refine hc1.mono ?_)
  rintro e w2 ⟨⟨v,rfl,tell⟩,⟨tx',cv2,ov',s2⟩,k2⟩
  have z1:=k1.size
  have z2:=k2.size
  simp only [World.size_alloc] at z1
  have t0:=(k2.block (w.heap.size+1) (by omega)).trans ((k1.block (w.heap.size+1) (by simp)).trans (heap_new _ _ (by simp)))
  obtain ⟨e0,e1⟩:=told_put (.int .i64 oe) (.int .i64 on) t0
  have lb:=s2.lt
  have hc2:Calls Tryz.prog 49 #[v] w2.drew fun e w'=>e=.returned (.agg #[.int .i64 oe,.int .i64 on])∧w'.cell? ⟨b,4,none⟩=some (.int .i64 n) ∧
      w'.cell? ⟨w.heap.size+1,0,none⟩=some (.int .i64 0)∧w'.cell? ⟨w.heap.size+1,1,none⟩=some (.int .i64 0)∧w'.frozen? ⟨w.heap.size+1,0,none⟩=false∧w'.frozen? ⟨w.heap.size+1,1,none⟩=false ∧
      Hid (w'.heap[w.heap.size+1]?=some (.cells #[.int .i64 0,.int .i64 0] 43 (0,0))∧Below w.heap.size w w'):=by
    refine (tell w2.drew ((Below.refl _ _).drew)).mono ?_
    rintro e w3 ⟨rfl,b3⟩
    have t3:=(b3.block (w.heap.size+1) (by show _ < w2.heap.size;omega)).trans t0
    have s3:=SrcAt.below (w:=w2.drew) (w':=w3) (show SrcAt b tx' cv2 fa wt n ov' w2.drew from s2) b3 lb
    refine ⟨rfl,s3.cells.2.2.2.2.1,by rw [Lib.cell_of_heap t3];rfl,by rw [Lib.cell_of_heap t3];rfl,Lib.frozen_of_heap t3 0,Lib.frozen_of_heap t3 1,t3,?_⟩
    exact ((KW.out.trans (k1.mono (by simp;omega))).trans (k2.mono (by omega))).trans (Below.mono (B:=w2.heap.size) ((Below.refl _ w2).drew.trans b3) (by omega))
  have s2c:w2.cell? ⟨b,4,none⟩=some (.int .i64 n):=s2.cells.2.2.2.2.1
  have hbn:¬ b=w.heap.size+1:=by omega
  have hbn':¬ w.heap.size+1=b:=by omega
  clear tell hc1 HP hsrc s1 c1 s2 k1 k2 t0 e0 e1 z1 z2
  go_wp2
  go_region_held3 (fun w'=>w'.cell? ⟨b,4,none⟩=some (.int .i64 n)) (first | go_keep | assumption | (simp [hbn,hbn'];assumption)) ((go_at_call 49;refine hc2.mono ?_;rintro e w3 ⟨rfl,d0,d1,d2,z0,z1,dd⟩))
  go_wp2
  obtain ⟨e0,e1⟩:=told_put (.int .i64 oe) (.int .i64 on) dd.out.1
  exact bodyPost_ret (v:=.tuple #[.string ot,.agg #[.int .i64 oe,.int .i64 on],.int .i64 n]) (by simp [results,Tryz.results55,go_sem,e0,e1]) rfl ⟨rfl,(dd.out.2.setCell (p:=⟨w.heap.size+1,0,none⟩) (by show _≤w.heap.size+1;omega) _).setCell (p:=⟨w.heap.size+1,1,none⟩) (by show _≤w.heap.size+1;omega) _⟩
end Go.Proofs.YtljcljipppjnoaaGreatDoor
namespace Go.Proofs.YtljcljipppjnoaaGreatDoor
open Go.RowKit
def ErrAt (aL aI:Addr) (o:Out) (v:Value) (O:Nat→Prop) (W:World):Prop :=
  match o with
  | .fine _=>v=.nilIface
  | .long=>v=.iface 292 (.pointer (some aL))
  | .idle=>v=.iface 292 (.pointer (some aI))
  | .fail k=>∃ gE gO:Nat,v=.iface 134 (.pointer (some ⟨gE,0,none⟩))∧O gE∧W.heap[gE]?=some (.cells #[.int .i64 k,.iface 133 (.pointer (some ⟨gO,0,none⟩))] 140 (0,0))
theorem ErrAt.keep {aL aI:Addr} {o:Out} {v:Value} {O:Nat→Prop} {W w':World} (h:ErrAt aL aI o v O W) (hk:∀ x,O x→w'.heap[x]?=W.heap[x]?):ErrAt aL aI o v O w':=by
  cases o with
  | fine s=>exact h
  | long=>exact h
  | idle=>exact h
  | fail k =>
    obtain ⟨gE,gO,h1,h2,h3⟩:=h
    exact ⟨gE,gO,h1,h2,(hk gE h2).trans h3⟩
theorem ErrAt.mono {aL aI:Addr} {o:Out} {v:Value} {O O':Nat→Prop} {W:World} (h:ErrAt aL aI o v O W) (hk:∀ x,O x→O' x):ErrAt aL aI o v O' W:=by
  cases o with
  | fine s=>exact h
  | long=>exact h
  | idle=>exact h
  | fail k =>
    obtain ⟨gE,gO,h1,h2,h3⟩:=h
    exact ⟨gE,gO,h1,hk gE h2,h3⟩
theorem ErrAt.told {aL aI:Addr} {o:Out} {v:Value} {O:Nat→Prop} {W:World} (h:ErrAt aL aI o v O W) (G:Glob W aL aI) :
    Calls Tryz.prog 49 #[v] W fun e w'=>e=.returned (.agg #[.int .i64 (outErr o),.int .i64 (outN o)])∧Below W.heap.size W w':=by
  cases o with
  | fine s=>obtain rfl:=h;exact of_nil W
  | long=>obtain rfl:=h;exact of_long aL W G.long
  | idle=>obtain rfl:=h;exact of_idle aL aI W G.long G.idle G.other
  | fail k =>
    obtain ⟨gE,gO,rfl,_,h3⟩:=h
    exact of_read gE k ⟨gO,0,none⟩ W G.type (by rw [Lib.cell_of_heap h3];rfl) (by rw [Lib.cell_of_heap h3];rfl)
set_option maxHeartbeats 1000000 in
theorem pgather_at (b f:Nat) (tx:ByteArray) (cv:Value) (cs:List Int) (fa:Int) (wt:Bool) (o:Out) (n:Nat) (aL aI:Addr) (w:World) (h:SrcAt b tx cv fa wt 0 false w) (hcs:CutsOK b cv cs w) (hts:tx.size≤4611686018427387904) (hf:f≤1099511627776)
    (hg:gat fa wt f tx cs 0 ByteArray.empty 0=some (o,n)) (hb5:1 ≠ b∧2 ≠ b) (G:Glob w aL aI) :
    Calls Tryz.prog 77 #[.iface 84 (.pointer (some ⟨b,0,none⟩))] w fun e w' =>
      (∃ v,e=.returned (.tuple #[.string (outText o),v])∧ErrAt aL aI o v (fun x=>w.heap.size≤x∧x < w'.heap.size) w')∧(∃ tx' cv' ov',SrcAt b tx' cv' fa wt n ov' w')∧Kept b w w':=by
  have hall:=all_any b f tx cv cs fa wt o n aL aI w h hcs hts hf hg ⟨hb5.1,hb5.2⟩ G.long G.idle
  have hsz:∀ s,o=.fine s→s.size≤35184372088832:=fun s e=>by subst e;have:=gat_size hg;omega
  clear hg hts hcs h
  cases o with
  | fine s =>
    have hc:=fun W=>text_any s W (hsz s rfl)
    clear hsz
    go_enter Tryz.func77,Tryz.ntmps77
    go_wp2_with (go_at_call 98;refine hall.mono ?_)
    rintro e w1 ⟨rfl,⟨tx',cv',ov',hs⟩,hk⟩
    go_wp2_with (go_at_call 81;refine (hc w1).mono ?_)
    rintro e w2 ⟨rfl,hb2⟩
    go_wp2
    go_ret2
    exact ⟨⟨_,rfl,rfl⟩,⟨tx',cv',ov',hs.below hb2 hs.lt⟩,hk.then_below (hb2.mono hk.size)⟩
  | long =>
    clear hsz
    go_enter Tryz.func77,Tryz.ntmps77
    go_wp2_with (go_at_call 98;refine hall.mono ?_)
    rintro e w1 ⟨rfl,hs,hk⟩
    go_wp2
    go_ret2
    exact ⟨⟨_,rfl,rfl⟩,hs,hk⟩
  | idle =>
    clear hsz
    go_enter Tryz.func77,Tryz.ntmps77
    go_wp2_with (go_at_call 98;refine hall.mono ?_)
    rintro e w1 ⟨rfl,hs,hk⟩
    go_wp2
    go_ret2
    exact ⟨⟨_,rfl,rfl⟩,hs,hk⟩
  | fail k =>
    clear hsz
    go_enter Tryz.func77,Tryz.ntmps77
    go_wp2_with (go_at_call 98;refine hall.mono ?_)
    rintro e w1 ⟨⟨gE,gO,r,rfl,x1,x2,x3,x4⟩,hs,hk⟩
    go_wp2
    go_ret2
    exact ⟨⟨_,rfl,gE,gO,rfl,⟨x3,(Array.getElem?_eq_some_iff.1 x1).1⟩,x1⟩,hs,hk⟩
end Go.Proofs.YtljcljipppjnoaaGreatDoor
