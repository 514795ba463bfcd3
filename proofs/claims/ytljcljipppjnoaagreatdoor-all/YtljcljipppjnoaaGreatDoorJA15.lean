import Derived.Test.YtljcljipppjnoaaGreatDoorJA08
import Derived.Test.YtljcljipppjnoaaGreatDoorRows
import Derived.WalkKit
import Derived.WalkSpells
import Derived.WalkLawsBesides
import Derived.Lib.OthersKept
import Derived.Handy
import Derived.Laws.Cover4
namespace Go.Proofs.YtljcljipppjnoaaGreatDoor
open Go.RowKit
theorem reg_next (s:ByteArray) (pos d f:Nat) (acc x:ByteArray) (hal:acc.size≤4 * pos) (hwd:1≤d) (hfu:s.size≤pos+(f+1)) (HA:Hid (acc.data.toList++regFrom s (f+1) pos=reg s))
    (HB:Hid (regFrom s (f+1) pos=regAt s pos++regFrom s f (pos+d))) (hx:x.data.toList=regAt s pos) :
    (acc++x).data.toList++regFrom s f (pos+d)=reg s∧s.size≤pos+d+f∧(acc++x).size≤4 * (pos+d):=by
  have h4:=regAt_len s pos
  have hxl:x.size=(regAt s pos).length:=by rw [← hx,Array.length_toList];rfl
  refine ⟨?_,by omega,by rw [ByteArray.size_append];omega⟩
  rw [← HA.out,HB.out,← hx,ByteArray.data_append,Array.toList_append,List.append_assoc]
theorem reg_none (s:ByteArray) (pos d f:Nat) (acc:ByteArray) (hal:acc.size≤4 * pos) (hwd:1≤d) (hfu:s.size≤pos+(f+1)) (HA:Hid (acc.data.toList++regFrom s (f+1) pos=reg s))
    (HB:Hid (regFrom s (f+1) pos=regAt s pos++regFrom s f (pos+d))) (hx:regAt s pos=[]) :
    acc.data.toList++regFrom s f (pos+d)=reg s∧s.size≤pos+d+f∧acc.size≤4 * (pos+d):=by
  refine ⟨?_,by omega,by omega⟩
  rw [← HA.out,HB.out,hx,List.nil_append]
set_option maxHeartbeats 2000000 in
set_option maxRecDepth 1000000 in
theorem regular_any (s:ByteArray) (w:World) (hs:s.size≤35184372088832) :
    Calls Tryz.prog 13 #[.string s] w fun e w'=>e=.returned (.string ⟨(reg s).toArray⟩)∧Below w.heap.size w w':=by
  go_enter Tryz.func13,Tryz.ntmps13
  go_wp2
  go_loopw [3] (fun o wr=>∃ (pos fuel:Nat) (acc:ByteArray),o=.string acc∧wr.heap[w.heap.size]?=some (.stringIter s pos)∧Below w.heap.size w wr∧acc.data.toList++regFrom s fuel pos=reg s∧s.size≤pos+fuel∧acc.size≤4 * pos) (fun _ wr=>s.size - wr.iterPos w.heap.size)
  case atStart =>
    refine ⟨0,s.size,_,rfl,World.iter_heap w s 0,(Below.refl _ w).alloc (Nat.le_refl _) _,rfl,by omega,?_⟩
    simp [ByteArray.size]
  case round =>
    obtain ⟨pos,fuel,acc,rfl,hit,hbw,hacc,hfu,hal⟩:=hrel
    have hsz:w.heap.size < wr.heap.size:=(Array.getElem?_eq_some_iff.1 hit).1
    by_cases hp:pos < s.size
    · have hnx:∀ ty,(Instr.next (.pointer (some ⟨w.heap.size,0,none⟩)) true ty).run Tryz.prog wr=_:=fun ty=>Lib.run_next_any_at wr w.heap.size s pos ty hit hp
      have hwd:=width_pos s pos hp
      have hd1:=decode_le s pos
      obtain ⟨f,rfl⟩:∃ f,fuel=f+1:=⟨fuel - 1,by omega⟩
      have hra:regFrom s (f+1) pos=regAt s pos++regFrom s f (pos+(Utf8.decode s pos).2):=by simp [regFrom,hp]
      have hit2:=Lib.iterAt_heap wr w.heap.size s pos (pos+(Utf8.decode s pos).2) hit
      have hbw2:=Lib.below_iterAt hbw (k:=w.heap.size) (Nat.le_refl _) s (pos+(Utf8.decode s pos).2)
      obtain ⟨r,hr⟩:∃ r,(Utf8.decode s pos).1=r:=⟨_,rfl⟩
      obtain ⟨d,hd⟩:∃ d,(Utf8.decode s pos).2=d:=⟨_,rfl⟩
      rw [hr] at hnx hd1
      rw [hd] at hnx hwd hit2 hbw2 hra
      have HR:Hid ((Utf8.decode s pos).1=r):=hr
      have HA:Hid (acc.data.toList++regFrom s (f+1) pos=reg s):=hacc
      have HB:Hid (regFrom s (f+1) pos=regAt s pos++regFrom s f (pos+d)):=hra
      clear hr hd hacc hra
      by_cases h0:r=0
      · subst h0
        go_wp2
        refine ⟨⟨pos+d,f,_,rfl,hit2,hbw2,reg_next s pos d f acc _ hal hwd hfu HA HB ?_⟩,?_⟩
        · simp [regAt,HR.out]
        · simp only [World.iterPos,hit2,hit];omega
      by_cases h1:r=65533
      · subst h1
        go_wp2
        refine ⟨⟨pos+d,f,_,rfl,hit2,hbw2,reg_next s pos d f acc _ hal hwd hfu HA HB ?_⟩,?_⟩
        · simp [regAt,HR.out]
        · simp only [World.iterPos,hit2,hit];omega
      by_cases h2:r=13
      · subst h2
        by_cases hlt:pos+1 < s.size
        · go_wp2
          · rename_i hq
            have hl:lfAt s (pos+1)=true:=by
              have hq':(s[pos+1]'hlt).toNat=10:=by have:=beq_iff_eq.1 hq;omega
              simp only [lfAt,hlt,decide_true,Bool.true_and,get_bang s (pos+1) hlt,beq_iff_eq]
              exact UInt8.toNat_inj.1 hq'
            refine ⟨⟨pos+d,f,_,rfl,hit2,hbw2,reg_none s pos d f acc hal hwd hfu HA HB ?_⟩,?_⟩
            · simp [regAt,HR.out,hl]
            · simp only [World.iterPos,hit2,hit];omega
          · rename_i hq
            have hl:lfAt s (pos+1)=false:=by
              have hq':¬ (s[pos+1]'hlt).toNat=10:=by have:=beq_eq_false_iff_ne.1 hq;omega
              simp only [lfAt,hlt,decide_true,Bool.true_and,get_bang s (pos+1) hlt,beq_eq_false_iff_ne]
              intro he
              exact hq' (by rw [he];rfl)
            refine ⟨⟨pos+d,f,_,rfl,hit2,hbw2,reg_next s pos d f acc _ hal hwd hfu HA HB ?_⟩,?_⟩
            · simp [regAt,HR.out,hl]
            · simp only [World.iterPos,hit2,hit];omega
        · have hn:¬ ((pos:Int)+1 < s.size):=by omega
          go_wp2
          refine ⟨⟨pos+d,f,_,rfl,hit2,hbw2,reg_next s pos d f acc _ hal hwd hfu HA HB ?_⟩,?_⟩
          · simp [regAt,HR.out,lfAt_end s (pos+1) hlt]
          · simp only [World.iterPos,hit2,hit];omega
      · have e0:((r:Int) == 0)=false:=by simp;omega
        have e1:((r:Int) == 65533)=false:=by simp;omega
        have e2:((r:Int) == 13)=false:=by simp;omega
        have H012:Hid (r ≠ 0∧r ≠ 65533∧r ≠ 13):=⟨h0,h1,h2⟩
        clear h0 h1 h2
        have hes:=encode_size_le (r:Int)
        go_wp2
        refine ⟨⟨pos+d,f,_,rfl,hit2,hbw2,reg_next s pos d f acc _ hal hwd hfu HA HB ?_⟩,?_⟩
        · obtain ⟨h0,h1,h2⟩:=H012.out
          rw [encode_list];simp [regAt,HR.out,h0,h1,h2]
        · simp only [World.iterPos,hit2,hit];omega
    · have hnx:∀ ty,(Instr.next (.pointer (some ⟨w.heap.size,0,none⟩)) true ty).run Tryz.prog wr=_:=fun ty=>Lib.run_next_end_at wr w.heap.size s pos ty hit hp
      go_wp2
      go_ret
      rw [regFrom_end s fuel pos hp,List.append_nil] at hacc
      rw [← hacc]
      exact ⟨rfl,hbw⟩
end Go.Proofs.YtljcljipppjnoaaGreatDoor
