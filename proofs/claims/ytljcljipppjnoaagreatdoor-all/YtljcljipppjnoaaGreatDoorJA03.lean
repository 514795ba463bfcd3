import Derived.Test.YtljcljipppjnoaaGreatDoorRows
import Derived.WalkKit
import Derived.WalkSpells
import Derived.WalkLawsBesides
import Derived.Lib.SmallJoins
import Derived.Lib.Builder
import Derived.Deep.QuietTactic
import Derived.BigQuiet
import Derived.Handy
import Derived.Defers
import Derived.Recover
namespace Go.Proofs.YtljcljipppjnoaaGreatDoor
open Go.RowKit
structure Kept (b:Nat) (w w':World):Prop where
  os:w'.os=w.os
  tape:w'.tape=w.tape
  output:w'.output=w.output
  size:w.heap.size≤w'.heap.size
  block:∀ k,k < w.heap.size→k ≠ b→w'.heap[k]?=w.heap[k]?
theorem Kept.refl (b:Nat) (w:World):Kept b w w:=⟨rfl,rfl,rfl,Nat.le_refl _,fun _ _ _=>rfl⟩
theorem Kept.trans {b:Nat} {u v w:World} (h:Kept b u v) (k:Kept b v w):Kept b u w :=
  ⟨k.os.trans h.os,k.tape.trans h.tape,k.output.trans h.output,Nat.le_trans h.size k.size,fun i hi hb=>(k.block i (Nat.lt_of_lt_of_le hi h.size) hb).trans (h.block i hi hb)⟩
theorem Kept.alloc {b:Nat} {u v:World} (h:Kept b u v) (o:Obj):Kept b u (v.alloc o) :=
  ⟨h.os,h.tape,h.output,by have:=h.size;simp;omega,fun i hi hb=>(Below.heap_alloc v o i (Nat.lt_of_lt_of_le hi h.size)).trans (h.block i hi hb)⟩
theorem Kept.drew {b:Nat} {u v:World} (h:Kept b u v):Kept b u v.drew:=⟨h.os,h.tape,h.output,h.size,h.block⟩
theorem Kept.drewN {b:Nat} {u v:World} (h:Kept b u v) (n:Nat):Kept b u (v.drewN n):=⟨h.os,h.tape,h.output,h.size,h.block⟩
theorem Kept.setCell {b:Nat} {u v:World} (h:Kept b u v) (i:Nat) (x:Value):Kept b u (v.setCell ⟨b,i,none⟩ x) :=
  ⟨h.os,h.tape,h.output,by have:=h.size;simp;omega,fun k hk hb=>(Below.heap_setCell v ⟨b,i,none⟩ x k hb).trans (h.block k hk hb)⟩
theorem Kept.setNew {b:Nat} {u v:World} (h:Kept b u v) {p:Addr} (hp:u.heap.size≤p.block) (x:Value):Kept b u (v.setCell p x) :=
  ⟨h.os,h.tape,h.output,by have:=h.size;simp;omega,fun k hk hb=>(Below.heap_setCell v p x k (by omega)).trans (h.block k hk hb)⟩
theorem Kept.below {b B:Nat} {u v:World} (h:Kept b u v) (hB:B≤b) (hu:B≤u.heap.size):Below B u v :=
  ⟨h.os,h.tape,h.output,h.size,fun k hk=>h.block k (by omega) (by omega)⟩
theorem Kept.of_below {b:Nat} {u v:World} (h:Below u.heap.size u v):Kept b u v:=⟨h.os,h.tape,h.output,h.size,fun k hk _=>h.block k hk⟩
theorem heap_new (v:World) (o:Obj) {n:Nat} (h:n=v.heap.size):(v.alloc o).heap[n]?=some o:=by
  subst h
  show (v.heap.push o)[v.heap.size]?=_
  simp
theorem empty_iff (s:ByteArray):s.toList.isEmpty=decide (s.size=0):=by
  rw [← decide_eq_emptyBytes]
  rw [Bool.eq_iff_iff,decide_eq_true_iff,decide_eq_true_iff]
  constructor
  · intro h
    rw [h]
    rfl
  · intro h
    apply ByteArray.ext
    exact Array.eq_empty_of_size_eq_zero h
def SrcAt (b:Nat) (tx:ByteArray) (cv:Value) (fa:Int) (wt:Bool) (rd:Int) (ov:Bool) (w:World):Prop :=
  w.heap[b]?=some (.cells #[.string tx,cv,.int .i64 fa,.bool wt,.int .i64 rd,.bool ov] 101 (0,0))
theorem SrcAt.cells {b:Nat} {tx:ByteArray} {cv:Value} {fa:Int} {wt:Bool} {rd:Int} {ov:Bool} {w:World} (h:SrcAt b tx cv fa wt rd ov w) :
    w.cell? ⟨b,0,none⟩=some (.string tx)∧w.cell? ⟨b,1,none⟩=some cv∧w.cell? ⟨b,2,none⟩=some (.int .i64 fa)∧w.cell? ⟨b,3,none⟩=some (.bool wt)∧w.cell? ⟨b,4,none⟩=some (.int .i64 rd)∧w.cell? ⟨b,5,none⟩=some (.bool ov):=by
  unfold SrcAt at h
  refine ⟨?_,?_,?_,?_,?_,?_⟩ <;> (rw [Lib.cell_of_heap h];rfl)
theorem SrcAt.frozen {b:Nat} {tx:ByteArray} {cv:Value} {fa:Int} {wt:Bool} {rd:Int} {ov:Bool} {w:World} (h:SrcAt b tx cv fa wt rd ov w) (j:Nat):w.frozen? ⟨b,j,none⟩=false :=
  Lib.frozen_of_heap h j
theorem SrcAt.lt {b:Nat} {tx:ByteArray} {cv:Value} {fa:Int} {wt:Bool} {rd:Int} {ov:Bool} {w:World} (h:SrcAt b tx cv fa wt rd ov w):b < w.heap.size :=
  (Array.getElem?_eq_some_iff.1 h).1
theorem SrcAt.alloc {b:Nat} {tx:ByteArray} {cv:Value} {fa:Int} {wt:Bool} {rd:Int} {ov:Bool} {w:World} (h:SrcAt b tx cv fa wt rd ov w) (o:Obj):SrcAt b tx cv fa wt rd ov (w.alloc o) :=
  (Below.heap_alloc w o b h.lt).trans h
theorem SrcAt.drewN {b:Nat} {tx:ByteArray} {cv:Value} {fa:Int} {wt:Bool} {rd:Int} {ov:Bool} {w:World} (h:SrcAt b tx cv fa wt rd ov w) (n:Nat):SrcAt b tx cv fa wt rd ov (w.drewN n):=h
theorem SrcAt.put0 {b:Nat} {tx:ByteArray} {cv:Value} {fa:Int} {wt:Bool} {rd:Int} {ov:Bool} {w:World} (h:SrcAt b tx cv fa wt rd ov w) (tx':ByteArray):SrcAt b tx' cv fa wt rd ov (w.setCell ⟨b,0,none⟩ (.string tx')):=by
  have:=Joins.block_setCell (i:=0) h (.string tx')
  simpa [SrcAt] using this
theorem SrcAt.put1 {b:Nat} {tx:ByteArray} {cv:Value} {fa:Int} {wt:Bool} {rd:Int} {ov:Bool} {w:World} (h:SrcAt b tx cv fa wt rd ov w) (cv':Value):SrcAt b tx cv' fa wt rd ov (w.setCell ⟨b,1,none⟩ cv'):=by
  have:=Joins.block_setCell (i:=1) h cv'
  simpa [SrcAt] using this
theorem SrcAt.put4 {b:Nat} {tx:ByteArray} {cv:Value} {fa:Int} {wt:Bool} {rd:Int} {ov:Bool} {w:World} (h:SrcAt b tx cv fa wt rd ov w) (rd':Int):SrcAt b tx cv fa wt rd' ov (w.setCell ⟨b,4,none⟩ (.int .i64 rd')):=by
  have:=Joins.block_setCell (i:=4) h (.int .i64 rd')
  simpa [SrcAt] using this
theorem SrcAt.put5 {b:Nat} {tx:ByteArray} {cv:Value} {fa:Int} {wt:Bool} {rd:Int} {ov:Bool} {w:World} (h:SrcAt b tx cv fa wt rd ov w) (ov':Bool):SrcAt b tx cv fa wt rd ov' (w.setCell ⟨b,5,none⟩ (.bool ov')):=by
  have:=Joins.block_setCell (i:=5) h (.bool ov')
  simpa [SrcAt] using this
theorem SrcAt.kept {b k:Nat} {tx:ByteArray} {cv:Value} {fa:Int} {wt:Bool} {rd:Int} {ov:Bool} {w w':World} (h:SrcAt b tx cv fa wt rd ov w) (hk:Kept k w w') (hb:b ≠ k):SrcAt b tx cv fa wt rd ov w' :=
  (hk.block b h.lt hb).trans h
set_option maxHeartbeats 1000000 in
theorem read_fail (b:Nat) (tx:ByteArray) (cv:Value) (fa:Int) (wt:Bool) (rd:Int) (ov:Bool) (w:World) (h:SrcAt b tx cv fa wt rd ov w) (h0:0≤rd) (h1:rd < 4611686018427387904) (hf:rd+1=fa) :
    Calls Tryz.prog 259 #[.pointer (some ⟨b,0,none⟩)] w fun e w'=>e=.returned (.tuple #[.string ⟨#[108,111,115,116]⟩,.bool wt,.iface 133 (.pointer (some ⟨w.heap.size,0,none⟩))]) ∧
      SrcAt b tx cv fa wt (rd+1) ov w'∧w'.heap[w.heap.size]?=some (.cells #[.int .i64 (rd+1)] 306 (0,0))∧Kept b w w':=by
  obtain ⟨c0,c1,c2,c3,c4,c5⟩:=h.cells
  have hz:=h.frozen
  have hlt:=h.lt
  have z4:=hz 4
  subst hf
  clear hz
  have H:Hid (SrcAt b tx cv (rd+1) wt rd ov w):=h
  clear h
  go_enter Tryz.func259,Tryz.ntmps259
  go_wp2
  go_quiet (fail)
  go_wp2
  go_region
  go_wp2
  go_ret3
  refine ⟨rfl,?_,?_,?_⟩
  · exact ((H.out.put4 _).drewN _).alloc _
  · exact heap_new _ _ (by simp)
  · exact (((Kept.refl b w).setCell 4 _).drewN _).alloc _
def cutN (tx:ByteArray) (c:Int):Nat:=if c < 0∨(tx.size:Int) < c then 0 else c.toNat
end Go.Proofs.YtljcljipppjnoaaGreatDoor
namespace Go.Proofs.YtljcljipppjnoaaGreatDoor
open Go.RowKit
set_option maxHeartbeats 8000000 in
theorem read_cut0 (b g o k cap:Nat) (c:Int) (tx:ByteArray) (fa:Int) (wt:Bool) (rd:Int) (ov:Bool) (w:World) (h:SrcAt b tx (.slice (some ⟨g,o,none⟩) (k+1) cap) fa wt rd ov w) (h0:0≤rd) (h1:rd < 4611686018427387904) (hf:rd+1 ≠ fa)
    (hkc:k+1≤cap) (hcap:cap≤9223372036854775807) (hts:tx.size≤4611686018427387904) (hgb:g ≠ b) (hc:w.cell? ⟨g,o,none⟩=some (.int .i64 c)) (hlow:c < 0∨(tx.size:Int) < c) :
    Calls Tryz.prog 259 #[.pointer (some ⟨b,0,none⟩)] w fun e w'=>e=.returned (.tuple #[.string ByteArray.empty,.bool (wt && decide (tx.size=0) && decide (k=0)),.nilIface]) ∧
      (∃ o' cap',SrcAt b tx (.slice (some ⟨g,o',none⟩) k cap') fa wt (rd+1) ov w'∧k≤cap'∧cap'≤cap∧(k ≠ 0→o'=o+1))∧Kept b w w':=by
  obtain ⟨c0,c1,c2,c3,c4,c5⟩:=h.cells
  have hz:=h.frozen
  have hlt:=h.lt
  have z4:=hz 4
  have z0:=hz 0
  have z1:=hz 1
  have heq:(rd+1 == fa)=false:=by simp [hf]
  clear hz hf
  have H:Hid (SrcAt b tx (.slice (some ⟨g,o,none⟩) (k+1) cap) fa wt rd ov w):=h
  clear h
  have hE:=empty_iff tx
  have hD:Hid (tx.toList.isEmpty=decide (tx.size=0)):=hE
  clear hE
  by_cases hc1:cap=1
  · subst hc1
    obtain rfl:k=0:=by omega
    go_enter Tryz.func259,Tryz.ntmps259
    go_wp2
    go_quiet (fail)
    rcases hlow with hl | hl
    all_goals
      go_wp2
      cases wt with
      | false =>
        go_quiet (fail)
        go_wp2
        go_ret3
        exact ⟨rfl,⟨o,0,((((H.out.put4 _).drewN _).put1 _).put0 _).drewN _,Nat.le_refl _,by omega,fun hh=>absurd rfl hh⟩,(((((Kept.refl b w).setCell 4 _).drewN _).setCell 1 _).setCell 0 _).drewN _⟩
      | true =>
        by_cases hem:tx.toList.isEmpty=true
        all_goals
          go_quiet (fail)
          go_wp2
          go_ret3
          refine ⟨?_,⟨o,0,((((H.out.put4 _).drewN _).put1 _).put0 _).drewN _,Nat.le_refl _,by omega,fun hh=>absurd rfl hh⟩,(((((Kept.refl b w).setCell 4 _).drewN _).setCell 1 _).setCell 0 _).drewN _⟩
          rw [← hD.out]
          first
            | (rw [hem];rfl)
            | (rw [Bool.eq_false_iff.2 hem];rfl)
  · go_enter Tryz.func259,Tryz.ntmps259
    go_wp2
    go_quiet (fail)
    rcases hlow with hl | hl
    all_goals
      go_wp2
      cases wt with
      | false =>
        go_quiet (fail)
        go_wp2
        go_ret3
        exact ⟨rfl,⟨o+1,cap - 1,((((H.out.put4 _).drewN _).put1 _).put0 _).drewN _,by omega,by omega,fun _=>rfl⟩,(((((Kept.refl b w).setCell 4 _).drewN _).setCell 1 _).setCell 0 _).drewN _⟩
      | true =>
        by_cases hem:tx.toList.isEmpty=true
        · by_cases hk:k=0
          · have hk':((k:Int) == 0)=true:=by simp [hk]
            have HK:Hid (k=0):=hk
            clear hk
            go_quiet (fail)
            go_wp2
            go_ret3
            refine ⟨?_,⟨o+1,cap - 1,((((H.out.put4 _).drewN _).put1 _).put0 _).drewN _,by omega,by omega,fun _=>rfl⟩,(((((Kept.refl b w).setCell 4 _).drewN _).setCell 1 _).setCell 0 _).drewN _⟩
            rw [← hD.out,hem,decide_eq_true HK.out]
            rfl
          · have hk':((k:Int) == 0)=false:=by simp [hk]
            have HK:Hid (¬ k=0):=hk
            clear hk
            go_quiet (fail)
            go_wp2
            go_ret3
            refine ⟨?_,⟨o+1,cap - 1,((((H.out.put4 _).drewN _).put1 _).put0 _).drewN _,by omega,by omega,fun _=>rfl⟩,(((((Kept.refl b w).setCell 4 _).drewN _).setCell 1 _).setCell 0 _).drewN _⟩
            rw [← hD.out,hem,decide_eq_false HK.out]
            rfl
        · go_quiet (fail)
          go_wp2
          go_ret3
          refine ⟨?_,⟨o+1,cap - 1,((((H.out.put4 _).drewN _).put1 _).put0 _).drewN _,by omega,by omega,fun _=>rfl⟩,(((((Kept.refl b w).setCell 4 _).drewN _).setCell 1 _).setCell 0 _).drewN _⟩
          rw [← hD.out,Bool.eq_false_iff.2 hem]
          rfl
end Go.Proofs.YtljcljipppjnoaaGreatDoor
namespace Go.Proofs.YtljcljipppjnoaaGreatDoor
open Go.RowKit
set_option maxHeartbeats 8000000 in
theorem read_cut1 (b g o k cap:Nat) (n:Nat) (tx:ByteArray) (fa:Int) (wt:Bool) (rd:Int) (ov:Bool) (w:World) (h:SrcAt b tx (.slice (some ⟨g,o,none⟩) (k+1) cap) fa wt rd ov w) (h0:0≤rd) (h1:rd < 4611686018427387904) (hf:rd+1 ≠ fa)
    (hkc:k+1≤cap) (hcap:cap≤9223372036854775807) (hgb:g ≠ b) (hc:w.cell? ⟨g,o,none⟩=some (.int .i64 n)) (hn:n≤tx.size) :
    Calls Tryz.prog 259 #[.pointer (some ⟨b,0,none⟩)] w fun e w'=>e=.returned (.tuple #[.string (tx.extract 0 n),.bool (wt && decide (n=tx.size) && decide (k=0)),.nilIface]) ∧
      (∃ o' cap',SrcAt b (tx.extract n tx.size) (.slice (some ⟨g,o',none⟩) k cap') fa wt (rd+1) ov w'∧k≤cap'∧cap'≤cap∧(k ≠ 0→o'=o+1))∧Kept b w w':=by
  obtain ⟨c0,c1,c2,c3,c4,c5⟩:=h.cells
  have hz:=h.frozen
  have hlt:=h.lt
  have z4:=hz 4
  have z0:=hz 0
  have z1:=hz 1
  have heq:(rd+1 == fa)=false:=by simp [hf]
  clear hz hf
  have H:Hid (SrcAt b tx (.slice (some ⟨g,o,none⟩) (k+1) cap) fa wt rd ov w):=h
  clear h
  have hE:=empty_iff (tx.extract n tx.size)
  have hD:Hid ((tx.extract n tx.size).toList.isEmpty=decide (n=tx.size)):=by
    rw [hE]
    have:(tx.extract n tx.size).size=tx.size - n:=by simp
    rw [this]
    congr 1
    apply propext
    omega
  clear hE
  by_cases hc1:cap=1
  · subst hc1
    obtain rfl:k=0:=by omega
    go_enter Tryz.func259,Tryz.ntmps259
    go_wp2
    go_quiet (fail)
    all_goals
      go_wp2
      cases wt with
      | false =>
        go_quiet (fail)
        go_wp2
        go_ret3
        exact ⟨rfl,⟨o,0,((((H.out.put4 _).drewN _).put1 _).put0 _).drewN _,Nat.le_refl _,by omega,fun hh=>absurd rfl hh⟩,(((((Kept.refl b w).setCell 4 _).drewN _).setCell 1 _).setCell 0 _).drewN _⟩
      | true =>
        by_cases hem:(tx.extract n tx.size).toList.isEmpty=true
        all_goals
          go_quiet (fail)
          go_wp2
          go_ret3
          refine ⟨?_,⟨o,0,((((H.out.put4 _).drewN _).put1 _).put0 _).drewN _,Nat.le_refl _,by omega,fun hh=>absurd rfl hh⟩,(((((Kept.refl b w).setCell 4 _).drewN _).setCell 1 _).setCell 0 _).drewN _⟩
          rw [← hD.out]
          first
            | (rw [hem];rfl)
            | (rw [Bool.eq_false_iff.2 hem];rfl)
  · go_enter Tryz.func259,Tryz.ntmps259
    go_wp2
    go_quiet (fail)
    all_goals
      go_wp2
      cases wt with
      | false =>
        go_quiet (fail)
        go_wp2
        go_ret3
        exact ⟨rfl,⟨o+1,cap - 1,((((H.out.put4 _).drewN _).put1 _).put0 _).drewN _,by omega,by omega,fun _=>rfl⟩,(((((Kept.refl b w).setCell 4 _).drewN _).setCell 1 _).setCell 0 _).drewN _⟩
      | true =>
        by_cases hem:(tx.extract n tx.size).toList.isEmpty=true
        · by_cases hk:k=0
          · have hk':((k:Int) == 0)=true:=by simp [hk]
            have HK:Hid (k=0):=hk
            clear hk
            go_quiet (fail)
            go_wp2
            go_ret3
            refine ⟨?_,⟨o+1,cap - 1,((((H.out.put4 _).drewN _).put1 _).put0 _).drewN _,by omega,by omega,fun _=>rfl⟩,(((((Kept.refl b w).setCell 4 _).drewN _).setCell 1 _).setCell 0 _).drewN _⟩
            rw [← hD.out,hem,decide_eq_true HK.out]
            rfl
          · have hk':((k:Int) == 0)=false:=by simp [hk]
            have HK:Hid (¬ k=0):=hk
            clear hk
            go_quiet (fail)
            go_wp2
            go_ret3
            refine ⟨?_,⟨o+1,cap - 1,((((H.out.put4 _).drewN _).put1 _).put0 _).drewN _,by omega,by omega,fun _=>rfl⟩,(((((Kept.refl b w).setCell 4 _).drewN _).setCell 1 _).setCell 0 _).drewN _⟩
            rw [← hD.out,hem,decide_eq_false HK.out]
            rfl
        · go_quiet (fail)
          go_wp2
          go_ret3
          refine ⟨?_,⟨o+1,cap - 1,((((H.out.put4 _).drewN _).put1 _).put0 _).drewN _,by omega,by omega,fun _=>rfl⟩,(((((Kept.refl b w).setCell 4 _).drewN _).setCell 1 _).setCell 0 _).drewN _⟩
          rw [← hD.out,Bool.eq_false_iff.2 hem]
          rfl
end Go.Proofs.YtljcljipppjnoaaGreatDoor
namespace Go.Proofs.YtljcljipppjnoaaGreatDoor
open Go.RowKit
set_option maxHeartbeats 4000000 in
theorem read_rest (b cap:Nat) (ca:Option Addr) (tx:ByteArray) (fa:Int) (wt:Bool) (rd:Int) (w:World) (h:SrcAt b tx (.slice ca 0 cap) fa wt rd false w) (h0:0≤rd) (h1:rd < 4611686018427387904) (hf:rd+1 ≠ fa) :
    Calls Tryz.prog 259 #[.pointer (some ⟨b,0,none⟩)] w fun e w'=>e=.returned (.tuple #[.string tx,.bool (decide (tx.size=0) || wt),.nilIface]) ∧
      SrcAt b ByteArray.empty (.slice ca 0 cap) fa wt (rd+1) (decide (tx.size=0) || wt) w'∧Kept b w w':=by
  obtain ⟨c0,c1,c2,c3,c4,c5⟩:=h.cells
  have hz:=h.frozen
  have hlt:=h.lt
  have z4:=hz 4
  have z0:=hz 0
  have z5:=hz 5
  have heq:(rd+1 == fa)=false:=by simp [hf]
  clear hz hf
  have H:Hid (SrcAt b tx (.slice ca 0 cap) fa wt rd false w):=h
  clear h
  have hE:=empty_iff tx
  have hD:Hid (tx.toList.isEmpty=decide (tx.size=0)):=hE
  clear hE
  go_enter Tryz.func259,Tryz.ntmps259
  go_wp2
  go_quiet (fail)
  by_cases hem:tx.toList.isEmpty=true
  · go_wp2
    go_quiet (fail)
    go_wp2
    go_ret3
    rw [← hD.out,hem]
    exact ⟨rfl,((((H.out.put4 _).drewN _).put0 _).put5 _).drewN _,(((((Kept.refl b w).setCell 4 _).drewN _).setCell 0 _).setCell 5 _).drewN _⟩
  · go_wp2
    go_quiet (fail)
    go_wp2
    go_ret3
    rw [← hD.out,Bool.eq_false_iff.2 hem]
    exact ⟨rfl,((((H.out.put4 _).drewN _).put0 _).put5 _).drewN _,(((((Kept.refl b w).setCell 4 _).drewN _).setCell 0 _).setCell 5 _).drewN _⟩
end Go.Proofs.YtljcljipppjnoaaGreatDoor
namespace Go.Proofs.YtljcljipppjnoaaGreatDoor
open Go.RowKit
theorem catch_idle (p q r:Addr) (w:World) :
    CallsD Tryz.prog 139 #[.pointer (some p),.pointer (some q),.pointer (some r)] .returning w fun e u' w'=>e=.returned (.tuple #[])∧u'=.returning∧w'=w:=by
  refine callsD_of_wpS Tryz.func139 rfl fun c₀ cs hu=>?_
  apply wpS_seq
  apply wpS_region
  simp [wpOpsS,go_sem,recoverD,hu,Tryz.ntmps139,Exit.thenS]
  refine wpS_cond (t:=false) (by simp [Act.eval,Array.replicate]) ?_
  simp only [Bool.false_eq_true,if_false]
  refine wpS_of_wp (wp_skip ?_)
  cases c₀
  simp_all [bodyPostS,results,Tryz.results139]
def asked (w:World):World:=((w.alloc (.cells #[.string ⟨#[]⟩] 9)).alloc (.cells #[.bool false] 4)).alloc (.cells #[.nilIface] 98)
theorem asked_size (w:World):(asked w).heap.size=w.heap.size+3:=by simp [asked]
theorem asked_old (w:World) (k:Nat) (h:k < w.heap.size):(asked w).heap[k]?=w.heap[k]?:=by
  unfold asked
  rw [Below.heap_alloc _ _ k (by simp;omega),Below.heap_alloc _ _ k (by simp;omega),Below.heap_alloc _ _ k h]
theorem asked0 (w:World):(asked w).heap[w.heap.size]?=some (.cells #[.string ⟨#[]⟩] 9 (0,0)):=by
  unfold asked
  rw [Below.heap_alloc _ _ _ (by simp;omega),Below.heap_alloc _ _ _ (by simp)]
  exact heap_new _ _ rfl
theorem asked1 (w:World):(asked w).heap[w.heap.size+1]?=some (.cells #[.bool false] 4 (0,0)):=by
  unfold asked
  rw [Below.heap_alloc _ _ _ (by simp)]
  exact heap_new _ _ (by simp)
theorem asked2 (w:World):(asked w).heap[w.heap.size+1+1]?=some (.cells #[.nilIface] 98 (0,0)):=by
  unfold asked
  exact heap_new _ _ (by simp)
set_option maxHeartbeats 1000000 in
theorem read_walk (b:Nat) (p:ByteArray) (d:Bool) (er:Value) (R:World→Prop) (w:World) (hb:b < w.heap.size) (hie:er=.nilIface∨∃ u x,er=.iface u x)
    (hR:Calls Tryz.prog 259 #[.pointer (some ⟨b,0,none⟩)] (asked w) fun e w'=>e=.returned (.tuple #[.string p,.bool d,er])∧R w'∧Kept b (asked w) w') :
    Calls Tryz.prog 118 #[.iface 84 (.pointer (some ⟨b,0,none⟩))] w fun e w'=>e=.returned (.tuple #[.string p,.bool d,er]) ∧
      ∃ w1,R w1∧(∀ k,k < w.heap.size∨w.heap.size+3≤k→w'.heap[k]?=w1.heap[k]?)∧Kept b w w':=by
  have hmf:∀ (fn:Fn) (first cap:Array Value) (w:World),(Instr.makeFunc fn first cap).run Tryz.prog w=.ok (.func fn first cap) w:=fun _ _ _ _=>rfl
  go_enter_defers Tryz.func118,Tryz.ntmps118
  go_wp2_with fail
  refine hR.mono ?_
  rintro e w1 ⟨rfl,hr,hk⟩
  have n0:=(hk.block w.heap.size (by rw [asked_size];omega) (by omega)).trans (asked0 w)
  have n1:=(hk.block (w.heap.size+1) (by rw [asked_size];omega) (by omega)).trans (asked1 w)
  have n2:=(hk.block (w.heap.size+1+1) (by rw [asked_size];omega) (by omega)).trans (asked2 w)
  have x0:w1.cell? ⟨w.heap.size,0,none⟩=some (.string ⟨#[]⟩):=by rw [Lib.cell_of_heap n0];rfl
  have x1:w1.cell? ⟨w.heap.size+1,0,none⟩=some (.bool false):=by rw [Lib.cell_of_heap n1];rfl
  have x2:w1.cell? ⟨w.heap.size+1+1,0,none⟩=some .nilIface:=by rw [Lib.cell_of_heap n2];rfl
  have y0:=Lib.frozen_of_heap n0 0
  have y1:=Lib.frozen_of_heap n1 0
  have y2:=Lib.frozen_of_heap n2 0
  have HK:Hid (R w1∧Kept b (asked w) w1):=⟨hr,hk⟩
  clear n0 n1 n2 hr hk hR
  rcases hie with rfl | ⟨u,x,rfl⟩
  all_goals
    go_wp2
    refine leaves_cons (f:=139) (args:=#[.pointer (some ⟨w.heap.size,0,none⟩),.pointer (some ⟨w.heap.size+1,0,none⟩),.pointer (some ⟨w.heap.size+1+1,0,none⟩)]) (by simp) (by simp [go_sem]) ?_
    refine (catch_idle _ _ _ _).mono ?_
    rintro e u' w'' ⟨rfl,rfl,rfl⟩
    simp [Leaves,settle,results,Tryz.results118,go_sem,x0,x1,x2]
    refine ⟨w1,HK.out.1,fun k hk=>?_,?_⟩
    · rw [Below.heap_setCell _ _ _ k (by show k ≠ w.heap.size+1+1;omega),Below.heap_setCell _ _ _ k (by show k ≠ w.heap.size+1;omega),Below.heap_setCell _ _ _ k (by show k ≠ w.heap.size;omega)]
    · have k0:Kept b w (asked w):=(((Kept.refl b w).alloc _).alloc _).alloc _
      exact ((((k0.trans HK.out.2).setNew (p:=⟨w.heap.size,0,none⟩) (Nat.le_refl _) _).setNew (p:=⟨w.heap.size+1,0,none⟩) (by show w.heap.size≤w.heap.size+1;omega) _).setNew (p:=⟨w.heap.size+1+1,0,none⟩) (by show w.heap.size≤w.heap.size+1+1;omega) _)
end Go.Proofs.YtljcljipppjnoaaGreatDoor
namespace Go.Proofs.YtljcljipppjnoaaGreatDoor
open Go.RowKit
def rdPiece (tx:ByteArray):List Int→ByteArray
  | []=>tx
  | c :: _=>tx.extract 0 (cutN tx c)
def rdRest (tx:ByteArray):List Int→ByteArray
  | []=>ByteArray.empty
  | c :: _=>tx.extract (cutN tx c) tx.size
def rdDone (wt:Bool) (tx:ByteArray):List Int→Bool
  | []=>decide (tx.size=0) || wt
  | c :: r=>wt && decide (cutN tx c=tx.size) && decide (r.length=0)
inductive Out where
  | fail (n:Nat)
  | long
  | idle
  | fine (s:ByteArray)
def gat (fa:Int) (wt:Bool):Nat→ByteArray→List Int→Nat→ByteArray→Nat→Option (Out × Nat)
  | 0,_,_,_,_,_=>none
  | f+1,tx,cs,rd,acc,idle =>
    if (rd:Int)+1=fa then some (.fail acc.size,rd+1)
    else if 300 < acc.size+(rdPiece tx cs).size then some (.long,rd+1)
    else if rdDone wt tx cs=true then some (.fine (acc++rdPiece tx cs),rd+1)
    else if (rdPiece tx cs).size=0 then (if 2 < idle+1 then some (.idle,rd+1) else gat fa wt f (rdRest tx cs) cs.tail (rd+1) (acc++rdPiece tx cs) (idle+1))
    else gat fa wt f (rdRest tx cs) cs.tail (rd+1) (acc++rdPiece tx cs) 0
theorem ext_whole (s:ByteArray):s.extract 0 s.size=s:=by
  apply ByteArray.ext
  rw [ByteArray.data_extract]
  exact Array.extract_size
theorem ext_none (s:ByteArray):s.extract 0 0=ByteArray.empty:=by
  apply ByteArray.ext
  rw [ByteArray.data_extract]
  simp
theorem cutN_le (tx:ByteArray) (c:Int):cutN tx c≤tx.size:=by
  unfold cutN
  split
  · omega
  · omega
theorem rdPiece_le (tx:ByteArray) (cs:List Int):(rdPiece tx cs).size≤tx.size:=by
  cases cs with
  | nil=>exact Nat.le_refl _
  | cons c r=>simp [rdPiece];omega
theorem rdRest_le (tx:ByteArray) (cs:List Int):(rdRest tx cs).size≤tx.size:=by
  cases cs with
  | nil=>simp [rdRest]
  | cons c r=>simp [rdRest]
theorem gat_some (fa:Int) (wt:Bool):∀ (f:Nat) (tx:ByteArray) (cs:List Int) (rd:Nat) (acc:ByteArray) (idle:Nat),cs.length+(if tx.size=0 then 1 else 2)≤f→∃ x,gat fa wt f tx cs rd acc idle=some x:=by
  intro f
  induction f with
  | zero =>
    intro tx cs rd acc idle h
    split at h <;> omega
  | succ f ih =>
    intro tx cs rd acc idle h
    unfold gat
    split
    · exact ⟨_,rfl⟩
    split
    · exact ⟨_,rfl⟩
    split
    · exact ⟨_,rfl⟩
    rename_i hd
    have hn:cs.tail.length+(if (rdRest tx cs).size=0 then 1 else 2)≤f:=by
      cases cs with
      | nil =>
        have h0:¬ tx.size=0:=by
          intro h0
          simp [rdDone,h0] at hd
        rw [if_neg h0] at h
        simp [rdRest] at h ⊢
        omega
      | cons c r =>
        have hl:=rdRest_le tx (c :: r)
        by_cases ht:tx.size=0
        · rw [if_pos (by omega)]
          rw [if_pos ht] at h
          simp at h ⊢
          omega
        · rw [if_neg ht] at h
          simp at h ⊢
          split <;> omega
    split
    · split
      · exact ⟨_,rfl⟩
      · exact ih _ _ _ _ _ hn
    · exact ih _ _ _ _ _ hn
def CutsOK (b:Nat) (cv:Value) (cs:List Int) (w:World):Prop :=
  ∃ (g o cap:Nat) ,cv=.slice (some ⟨g,o,none⟩) cs.length cap∧cs.length≤cap∧cap≤9223372036854775807∧g ≠ b∧g < w.heap.size∧∀ (i:Nat) (c:Int),cs[i]?=some c→w.cell? ⟨g,o+i,none⟩=some (.int .i64 c)
theorem CutsOK.kept {b k:Nat} {cv:Value} {cs:List Int} {w w':World} (h:CutsOK b cv cs w) (hk:∀ g,g < w.heap.size→g ≠ b→g ≠ k→w'.heap[g]?=w.heap[g]?) (hs:w.heap.size≤w'.heap.size)
    (hg:∀ g o cap,cv=.slice (some ⟨g,o,none⟩) cs.length cap→g ≠ k):CutsOK b cv cs w':=by
  obtain ⟨g,o,cap,hcv,h1,h2,h3,h4,h5⟩:=h
  refine ⟨g,o,cap,hcv,h1,h2,h3,by omega,fun i c hi=>?_⟩
  have:=h5 i c hi
  rw [← this]
  exact World.cell?_of_block (hk g h4 h3 (hg g o cap hcv))
theorem gat_fail {fa:Int} {wt:Bool} {f:Nat} {tx:ByteArray} {cs:List Int} {rd:Nat} {acc:ByteArray} {idle:Nat} {o:Out} {n:Nat} (h:gat fa wt f tx cs rd acc idle=some (o,n)) (hf:(rd:Int)+1=fa):o=.fail acc.size∧n=rd+1:=by
  cases f with
  | zero=>cases h
  | succ f =>
    rw [gat,if_pos hf] at h
    simp only [Option.some.injEq,Prod.mk.injEq] at h
    exact ⟨h.1.symm,h.2.symm⟩
theorem gat_long {fa:Int} {wt:Bool} {f:Nat} {tx:ByteArray} {cs:List Int} {rd:Nat} {acc:ByteArray} {idle:Nat} {o:Out} {n:Nat} (h:gat fa wt f tx cs rd acc idle=some (o,n)) (hf:(rd:Int)+1 ≠ fa)
    (hl:300 < acc.size+(rdPiece tx cs).size):o=.long∧n=rd+1:=by
  cases f with
  | zero=>cases h
  | succ f =>
    rw [gat,if_neg hf,if_pos hl] at h
    simp only [Option.some.injEq,Prod.mk.injEq] at h
    exact ⟨h.1.symm,h.2.symm⟩
theorem gat_fine {fa:Int} {wt:Bool} {f:Nat} {tx:ByteArray} {cs:List Int} {rd:Nat} {acc:ByteArray} {idle:Nat} {o:Out} {n:Nat} (h:gat fa wt f tx cs rd acc idle=some (o,n)) (hf:(rd:Int)+1 ≠ fa)
    (hl:¬ 300 < acc.size+(rdPiece tx cs).size) (hd:rdDone wt tx cs=true):o=.fine (acc++rdPiece tx cs)∧n=rd+1:=by
  cases f with
  | zero=>cases h
  | succ f =>
    rw [gat,if_neg hf,if_neg hl,if_pos hd] at h
    simp only [Option.some.injEq,Prod.mk.injEq] at h
    exact ⟨h.1.symm,h.2.symm⟩
theorem gat_idle {fa:Int} {wt:Bool} {f:Nat} {tx:ByteArray} {cs:List Int} {rd:Nat} {acc:ByteArray} {idle:Nat} {o:Out} {n:Nat} (h:gat fa wt f tx cs rd acc idle=some (o,n)) (hf:(rd:Int)+1 ≠ fa)
    (hl:¬ 300 < acc.size+(rdPiece tx cs).size) (hd:¬ rdDone wt tx cs=true) (hp:(rdPiece tx cs).size=0) (hi:2 < idle+1):o=.idle∧n=rd+1:=by
  cases f with
  | zero=>cases h
  | succ f =>
    rw [gat,if_neg hf,if_neg hl,if_neg hd,if_pos hp,if_pos hi] at h
    simp only [Option.some.injEq,Prod.mk.injEq] at h
    exact ⟨h.1.symm,h.2.symm⟩
theorem gat_on {fa:Int} {wt:Bool} {f:Nat} {tx:ByteArray} {cs:List Int} {rd:Nat} {acc:ByteArray} {idle:Nat} {o:Out} {n:Nat} (h:gat fa wt f tx cs rd acc idle=some (o,n)) (hf:(rd:Int)+1 ≠ fa)
    (hl:¬ 300 < acc.size+(rdPiece tx cs).size) (hd:¬ rdDone wt tx cs=true) (hp:(rdPiece tx cs).size=0) (hi:¬ 2 < idle+1) :
    ∃ f',f=f'+1∧gat fa wt f' (rdRest tx cs) cs.tail (rd+1) (acc++rdPiece tx cs) (idle+1)=some (o,n):=by
  cases f with
  | zero=>cases h
  | succ f =>
    rw [gat,if_neg hf,if_neg hl,if_neg hd,if_pos hp,if_neg hi] at h
    exact ⟨f,rfl,h⟩
theorem gat_more {fa:Int} {wt:Bool} {f:Nat} {tx:ByteArray} {cs:List Int} {rd:Nat} {acc:ByteArray} {idle:Nat} {o:Out} {n:Nat} (h:gat fa wt f tx cs rd acc idle=some (o,n)) (hf:(rd:Int)+1 ≠ fa)
    (hl:¬ 300 < acc.size+(rdPiece tx cs).size) (hd:¬ rdDone wt tx cs=true) (hp:¬ (rdPiece tx cs).size=0) :
    ∃ f',f=f'+1∧gat fa wt f' (rdRest tx cs) cs.tail (rd+1) (acc++rdPiece tx cs) 0=some (o,n):=by
  cases f with
  | zero=>cases h
  | succ f =>
    rw [gat,if_neg hf,if_neg hl,if_neg hd,if_neg hp] at h
    exact ⟨f,rfl,h⟩
end Go.Proofs.YtljcljipppjnoaaGreatDoor
namespace Go.Proofs.YtljcljipppjnoaaGreatDoor
open Go.RowKit
theorem SrcAt.asked {b:Nat} {tx:ByteArray} {cv:Value} {fa:Int} {wt:Bool} {rd:Int} {ov:Bool} {w:World} (h:SrcAt b tx cv fa wt rd ov w):SrcAt b tx cv fa wt rd ov (asked w) :=
  ((h.alloc _).alloc _).alloc _
theorem rd_fail (b:Nat) (tx:ByteArray) (cv:Value) (fa:Int) (wt:Bool) (rd:Int) (ov:Bool) (w:World) (h:SrcAt b tx cv fa wt rd ov w) (h0:0≤rd) (h1:rd < 4611686018427387904) (hf:rd+1=fa) :
    Calls Tryz.prog 118 #[.iface 84 (.pointer (some ⟨b,0,none⟩))] w fun e w'=>e=.returned (.tuple #[.string ⟨#[108,111,115,116]⟩,.bool wt,.iface 133 (.pointer (some ⟨w.heap.size+3,0,none⟩))]) ∧
      SrcAt b tx cv fa wt (rd+1) ov w'∧w'.heap[w.heap.size+3]?=some (.cells #[.int .i64 (rd+1)] 306 (0,0))∧Kept b w w':=by
  have hlt:=h.lt
  have hc:=read_fail b tx cv fa wt rd ov (asked w) h.asked h0 h1 hf
  rw [asked_size] at hc
  refine (read_walk b ⟨#[108,111,115,116]⟩ wt (.iface 133 (.pointer (some ⟨w.heap.size+3,0,none⟩))) (fun w'=>SrcAt b tx cv fa wt (rd+1) ov w'∧w'.heap[w.heap.size+3]?=some (.cells #[.int .i64 (rd+1)] 306 (0,0))) w hlt (Or.inr ⟨_,_,rfl⟩) (hc.mono ?_)).mono ?_
  · rintro e w' ⟨rfl,r1,r2,r3⟩
    exact ⟨rfl,⟨r1,r2⟩,r3⟩
  · rintro e w' ⟨rfl,w1,⟨r1,r2⟩,hk,r3⟩
    exact ⟨rfl,(hk b (Or.inl hlt)).trans r1,(hk _ (Or.inr (Nat.le_refl _))).trans r2,r3⟩
theorem rd_ok (b:Nat) (tx:ByteArray) (cv:Value) (cs:List Int) (fa:Int) (wt:Bool) (rd:Int) (w:World) (h:SrcAt b tx cv fa wt rd false w) (hcs:CutsOK b cv cs w) (h0:0≤rd) (h1:rd < 4611686018427387904) (hts:tx.size≤4611686018427387904) (hf:rd+1 ≠ fa) :
    Calls Tryz.prog 118 #[.iface 84 (.pointer (some ⟨b,0,none⟩))] w fun e w'=>e=.returned (.tuple #[.string (rdPiece tx cs),.bool (rdDone wt tx cs),.nilIface]) ∧
      (∃ cv' ov',SrcAt b (rdRest tx cs) cv' fa wt (rd+1) ov' w'∧CutsOK b cv' cs.tail w'∧(rdDone wt tx cs=false→ov'=false)∧(∀ g o n cap,cv'=.slice (some ⟨g,o,none⟩) n cap→∃ o' n' cap',cv=.slice (some ⟨g,o',none⟩) n' cap'))∧Kept b w w':=by
  have hlt:=h.lt
  obtain ⟨g,o,cap,rfl,hl,hcap,hgb,hg,hcell⟩:=hcs
  refine (read_walk b (rdPiece tx cs) (rdDone wt tx cs) .nilIface (fun w'=>∃ o' cap' ov',SrcAt b (rdRest tx cs) (.slice (some ⟨g,o',none⟩) cs.tail.length cap') fa wt (rd+1) ov' w'∧cs.tail.length≤cap'∧cap'≤cap∧(cs.tail.length ≠ 0→o'=o+1)∧(rdDone wt tx cs=false→ov'=false)) w hlt (Or.inl rfl) ?_).mono ?_
  · cases cs with
    | nil =>
      refine (read_rest b cap (some ⟨g,o,none⟩) tx fa wt rd (asked w) h.asked h0 h1 hf).mono ?_
      rintro e w' ⟨rfl,r1,r2⟩
      exact ⟨rfl,⟨o,cap,_,r1,Nat.zero_le _,Nat.le_refl _,fun hh=>absurd rfl hh,fun hh=>hh⟩,r2⟩
    | cons c r =>
      have hc0:(asked w).cell? ⟨g,o,none⟩=some (.int .i64 c):=by
        rw [← hcell 0 c rfl]
        exact World.cell?_of_block (asked_old w g hg)
      by_cases hlow:c < 0∨(tx.size:Int) < c
      · have hn:cutN tx c=0:=by simp [cutN,hlow]
        refine (read_cut0 b g o r.length cap c tx fa wt rd false (asked w) h.asked h0 h1 hf hl hcap hts hgb hc0 hlow).mono ?_
        rintro e w' ⟨rfl,⟨o',cap',r1,r2,r3,r4⟩,r5⟩
        refine ⟨?_,⟨o',cap',false,?_,r2,r3,r4,fun _=>rfl⟩,r5⟩
        · simp only [rdPiece,rdDone,hn,ext_none]
          have:decide (0=tx.size)=decide (tx.size=0):=by congr 1;exact propext ⟨Eq.symm,Eq.symm⟩
          rw [this]
        · simp only [rdRest,hn,ext_whole]
          exact r1
      · have hn:c=(cutN tx c:Int):=by
          unfold cutN
          rw [if_neg hlow]
          omega
        have hle:=cutN_le tx c
        rw [hn] at hc0
        refine (read_cut1 b g o r.length cap (cutN tx c) tx fa wt rd false (asked w) h.asked h0 h1 hf hl hcap hgb hc0 hle).mono ?_
        rintro e w' ⟨rfl,⟨o',cap',r1,r2,r3,r4⟩,r5⟩
        exact ⟨rfl,⟨o',cap',false,r1,r2,r3,r4,fun _=>rfl⟩,r5⟩
  · rintro e w' ⟨rfl,w1,⟨o',cap',ov',r1,r2,r3,r4,r5⟩,hk,r6⟩
    refine ⟨rfl,⟨_,ov',(hk b (Or.inl hlt)).trans r1,⟨g,o',cap',rfl,r2,by omega,hgb,by have:=r6.size;omega,fun i c hi=>?_⟩,r5,fun g' o2 n2 cap2 he=>?_⟩,r6⟩
    · have hi':cs[i+1]?=some c:=by rw [← hi,List.getElem?_tail]
      have hlen:cs.tail.length ≠ 0:=by
        intro h0
        rw [List.length_eq_zero_iff.1 h0] at hi
        simp at hi
      have:=hcell (i+1) c hi'
      rw [r4 hlen,← this,Nat.add_right_comm,Nat.add_assoc]
      exact World.cell?_of_block (r6.block g hg hgb)
    · simp at he
      exact ⟨o,cs.length,cap,by rw [he.1.1]⟩
end Go.Proofs.YtljcljipppjnoaaGreatDoor
