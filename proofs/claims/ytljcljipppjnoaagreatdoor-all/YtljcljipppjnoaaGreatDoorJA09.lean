import Derived.Test.YtljcljipppjnoaaGreatDoorJA05
import Derived.Test.YtljcljipppjnoaaGreatDoorJA08
import Derived.Test.YtljcljipppjnoaaGreatDoorRows
import Derived.WalkKit
import Derived.WalkSpells
import Derived.WalkLawsBesides
import Derived.BigCall
import Derived.Handy
namespace Go.Proofs.YtljcljipppjnoaaGreatDoor
open Go.RowKit
theorem txt_next (s:ByteArray) (b:Bool) (pos d f:Nat) (acc x:List UInt8) (hal:acc.length≤4 * pos) (hwd:1≤d) (hfu:s.size≤pos+(f+1)) (HA:Hid (acc++txtFrom s (f+1) b pos=reg s))
    (HB:Hid (txtFrom s (f+1) b pos=txtAt s b pos++txtFrom s f (decide ((Utf8.decode s pos).1=13)) (pos+d))) (hx:txtAt s b pos=x) (h4:x.length≤4) :
    (acc++x)++txtFrom s f (decide ((Utf8.decode s pos).1=13)) (pos+d)=reg s∧s.size≤pos+d+f∧(acc++x).length≤4 * (pos+d):=by
  refine ⟨?_,by omega,by rw [List.length_append];omega⟩
  rw [← HA.out,HB.out,hx,List.append_assoc]
set_option maxHeartbeats 2000000 in
set_option maxRecDepth 1000000 in
theorem text_any (s:ByteArray) (w:World) (hs:s.size≤35184372088832) :
    Calls Tryz.prog 81 #[.string s] w fun e w'=>e=.returned (.string ⟨(reg s).toArray⟩)∧Below w.heap.size w w':=by
  go_enter Tryz.func81,Tryz.ntmps81
  go_wp2
  go_loopw [4] (fun o wr=>∃ (pos fuel:Nat) (b:Bool) (acc:List UInt8),o=.bool b∧Lib.IsBuilderF 191 5 w.heap.size w.heap.size (Lib.byteCells acc) wr∧wr.heap[w.heap.size+1]?=some (.stringIter s pos)∧Below w.heap.size w wr∧acc++txtFrom s fuel b pos=reg s∧s.size≤pos+fuel∧acc.length≤4 * pos) (fun _ wr=>s.size - wr.iterPos (w.heap.size+1))
  case atStart =>
    refine ⟨0,s.size,false,[],rfl,(Lib.IsBuilderF.of (Lib.fresh_isBuilder 191 5 w)).alloc _,?_,((Below.refl _ w).alloc (Nat.le_refl _) _).alloc (by simp) _,txt_eq s,by omega,by simp⟩
    have:=World.iter_heap (w.alloc (.cells #[.pointer none,.slice none 0 0] 191)) s 0
    simpa using this
  case round =>
    obtain ⟨pos,fuel,b,acc,rfl,hI,hit,hbw,hacc,hfu,hal⟩:=hrel
    have hsz:w.heap.size+1 < wr.heap.size:=(Array.getElem?_eq_some_iff.1 hit).1
    by_cases hp:pos < s.size
    · have hnx:∀ ty,(Instr.next (.pointer (some ⟨w.heap.size+1,0,none⟩)) true ty).run Tryz.prog wr=_:=fun ty=>Lib.run_next_any_at wr (w.heap.size+1) s pos ty hit hp
      have hwd:=width_pos s pos hp
      have hd1:=decode_le s pos
      obtain ⟨f,rfl⟩:∃ f,fuel=f+1:=⟨fuel - 1,by omega⟩
      have hra:txtFrom s (f+1) b pos=txtAt s b pos++txtFrom s f (decide ((Utf8.decode s pos).1=13)) (pos+(Utf8.decode s pos).2):=by simp [txtFrom,hp]
      have hI2:=hI.iterAt hit (pos+(Utf8.decode s pos).2)
      have hit2:=Lib.iterAt_heap wr (w.heap.size+1) s pos (pos+(Utf8.decode s pos).2) hit
      have hbw2:=Lib.below_iterAt hbw (k:=w.heap.size+1) (by omega) s (pos+(Utf8.decode s pos).2)
      have hsz2:w.heap.size≤(wr.iterAt (w.heap.size+1) s (pos+(Utf8.decode s pos).2)).heap.size:=by rw [Lib.iterAt_size];omega
      obtain ⟨r,hr⟩:∃ r,(Utf8.decode s pos).1=r:=⟨_,rfl⟩
      obtain ⟨d,hd⟩:∃ d,(Utf8.decode s pos).2=d:=⟨_,rfl⟩
      rw [hr] at hnx hd1
      rw [hd] at hnx hwd hit2 hbw2 hra hI2 hsz2
      have HR:Hid ((Utf8.decode s pos).1=r):=hr
      have HA:Hid (acc++txtFrom s (f+1) b pos=reg s):=hacc
      have HB:Hid (txtFrom s (f+1) b pos=txtAt s b pos++txtFrom s f (decide ((Utf8.decode s pos).1=13)) (pos+d)):=hra
      clear hr hd hacc hra hI hbw
      by_cases h2:r=13
      · subst h2
        go_wp2_with (go_at_call 104;refine (bld_byte w.heap.size w.heap.size _ 10 _ hI2 (by rw [Lib.byteCells_length];omega) hsz2).mono ?_)
        rintro e W1 ⟨rfl,h1,b1,k1⟩
        go_wp2
        go_roundw
        case rel =>
          refine ⟨pos+d,f,true,acc++[10],rfl,?_,k1.iter hit2 (by omega),hbw2.trans b1,?_⟩
          · rw [Lib.byteCells_append];exact Or.inr h1
          · have:=txt_next s b pos d f acc [10] hal hwd hfu HA HB (by simp [txtAt,HR.out]) (by simp)
            simpa [HR.out] using this
        case measure =>
          simp only [World.iterPos,k1.iter hit2 (by omega),hit]
          omega
      have e2:((r:Int) == 13)=false:=by simp;omega
      have hdf:decide ((Utf8.decode s pos).1=13)=false:=by simp [HR.out,h2]
      have HD:Hid (decide ((Utf8.decode s pos).1=13)=false):=hdf
      have H2:Hid (r ≠ 13):=h2
      clear hdf h2
      by_cases h10:r=10
      · subst h10
        cases b with
        | true =>
          go_wp2
          go_roundw
          case rel =>
            have:=txt_next s true pos d f acc [] hal hwd hfu HA HB (by simp [txtAt,HR.out]) (by simp)
            rw [HD.out,List.append_nil] at this
            exact ⟨pos+d,f,false,acc,rfl,hI2,hit2,hbw2,this⟩
          case measure =>
            simp only [World.iterPos,hit2,hit]
            omega
        | false =>
          go_wp2_with (go_at_call 105;refine (bld_rune w.heap.size w.heap.size _ _ (by omega) (by omega) _ hI2 (by rw [Lib.byteCells_length];omega) hsz2).mono ?_)
          rintro e W1 ⟨rfl,h1,b1,k1⟩
          go_wp2
          go_roundw
          case rel =>
            have:=txt_next s false pos d f acc (Lib.encodeRune 10) hal hwd hfu HA HB (by simp [txtAt,HR.out]) (encodeRune_len _)
            rw [HD.out] at this
            refine ⟨pos+d,f,false,acc++Lib.encodeRune 10,rfl,?_,k1.iter hit2 (by omega),hbw2.trans b1,this⟩
            rw [Lib.byteCells_append,Lib.byteCells_encodeRune];exact Or.inr h1
          case measure =>
            simp only [World.iterPos,k1.iter hit2 (by omega),hit]
            omega
      have e10:((r:Int) == 10)=false:=by simp;omega
      by_cases h0:r=0
      · subst h0
        go_wp2_with (go_at_call 105;refine (bld_rune w.heap.size w.heap.size _ _ (by omega) (by omega) _ hI2 (by rw [Lib.byteCells_length];omega) hsz2).mono ?_)
        rintro e W1 ⟨rfl,h1,b1,k1⟩
        go_wp2
        go_roundw
        case rel =>
          have:=txt_next s b pos d f acc (Lib.encodeRune 65533) hal hwd hfu HA HB (by simp [txtAt,HR.out]) (encodeRune_len _)
          rw [HD.out] at this
          refine ⟨pos+d,f,false,acc++Lib.encodeRune 65533,rfl,?_,k1.iter hit2 (by omega),hbw2.trans b1,this⟩
          rw [Lib.byteCells_append,Lib.byteCells_encodeRune];exact Or.inr h1
        case measure =>
          simp only [World.iterPos,k1.iter hit2 (by omega),hit]
          omega
      have e0:((r:Int) == 0)=false:=by simp;omega
      have H3:Hid (r ≠ 10∧r ≠ 0):=⟨h10,h0⟩
      clear h10 h0
      go_wp2_with (go_at_call 105;refine (bld_rune w.heap.size w.heap.size _ _ (by omega) (by omega) _ hI2 (by rw [Lib.byteCells_length];omega) hsz2).mono ?_)
      rintro e W1 ⟨rfl,h1,b1,k1⟩
      go_wp2
      go_roundw
      case rel =>
        have:=txt_next s b pos d f acc (Lib.encodeRune r) hal hwd hfu HA HB (by simp [txtAt,HR.out,H2.out,H3.out.1,H3.out.2]) (encodeRune_len _)
        rw [HD.out] at this
        refine ⟨pos+d,f,false,acc++Lib.encodeRune r,rfl,?_,k1.iter hit2 (by omega),hbw2.trans b1,this⟩
        rw [Lib.byteCells_append,Lib.byteCells_encodeRune];exact Or.inr h1
      case measure =>
        simp only [World.iterPos,k1.iter hit2 (by omega),hit]
        omega
    · have hnx:∀ ty,(Instr.next (.pointer (some ⟨w.heap.size+1,0,none⟩)) true ty).run Tryz.prog wr=_:=fun ty=>Lib.run_next_end_at wr (w.heap.size+1) s pos ty hit hp
      go_wp2_with (go_at_call 106;refine (bld_all w.heap.size w.heap.size acc _ hI (by omega)).mono ?_)
      rintro e W1 ⟨rfl,_,b1,_⟩
      go_wp2
      go_ret
      rw [txtFrom_end s fuel b pos hp,List.append_nil] at hacc
      subst hacc
      exact ⟨rfl,hbw.trans b1⟩
end Go.Proofs.YtljcljipppjnoaaGreatDoor
