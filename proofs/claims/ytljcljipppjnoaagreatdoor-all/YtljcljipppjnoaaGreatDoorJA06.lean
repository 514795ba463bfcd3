import Derived.Test.YtljcljipppjnoaaGreatDoorJA03
import Derived.Test.YtljcljipppjnoaaGreatDoorJA05
namespace Go.Proofs.YtljcljipppjnoaaGreatDoor
open Go.RowKit
def Has (B b:Nat) (acc:ByteArray) (w:World):Prop:=Lib.IsBuilderF 191 5 B b (Lib.byteCells acc.data.toList) w
theorem cells_size (acc:ByteArray):(Lib.byteCells acc.data.toList).length=acc.size:=by
  rw [Lib.byteCells_length,Array.length_toList]
  rfl
theorem Has.kept {B b k:Nat} {acc:ByteArray} {w w':World} (h:Has B b acc w) (hk:Kept k w w') (hlt:k < B):Has B b acc w':=by
  have key:∀ p,Lib.BuilderAtF 191 5 B b p (Lib.byteCells acc.data.toList) w→Lib.BuilderAtF 191 5 B b p (Lib.byteCells acc.data.toList) w':=by
    intro p h
    obtain ⟨hB,v,hb,hown,hne⟩:=h
    have hbl:b < w.heap.size:=(Array.getElem?_eq_some_iff.1 hb).1
    refine ⟨hB,v,(hk.block b hbl (by omega)).trans hb,⟨hown.1,?_⟩,hne⟩
    rcases hown.2 with hn | ⟨g,cap,cur,fz,hv,hbg,hg,rest⟩
    · exact .inl hn
    · have hgl:g < w.heap.size:=(Array.getElem?_eq_some_iff.1 hg).1
      exact .inr ⟨g,cap,cur,fz,hv,hbg,(hk.block g hgl (by omega)).trans hg,rest⟩
  exact h.elim (fun x=>.inl (key _ x)) (fun x=>.inr (key _ x))
theorem has_len (B b:Nat) (acc:ByteArray) (w:World) (h:Has B b acc w) :
    Calls Tryz.prog 120 #[.pointer (some ⟨b,0,none⟩)] w fun e w'=>e=.returned (.int .i64 acc.size)∧w'=w:=by
  have:=bld_len B b _ w h
  rw [cells_size] at this
  exact this
theorem has_write (B b:Nat) (acc s:ByteArray) (w:World) (h:Has B b acc w) (hlen:acc.size+s.size≤140737488355328) (hBw:B≤w.heap.size) :
    Calls Tryz.prog 121 #[.pointer (some ⟨b,0,none⟩),.string s] w fun e w'=>e=.returned (.tuple #[.int .i64 s.size,.nilIface])∧Has B b (acc++s) w'∧Below B w w':=by
  refine (bld_string B b _ s w h (by rw [cells_size];exact hlen) hBw).mono ?_
  rintro e w' ⟨rfl,h1,b1,_⟩
  refine ⟨rfl,?_,b1⟩
  unfold Has
  rw [ByteArray.data_append,Array.toList_append,Lib.byteCells_append]
  exact Or.inr h1
theorem has_all (B b:Nat) (acc:ByteArray) (w:World) (h:Has B b acc w) (hBw:B≤w.heap.size) :
    Calls Tryz.prog 106 #[.pointer (some ⟨b,0,none⟩)] w fun e w'=>e=.returned (.string acc)∧Below B w w':=by
  refine (bld_all B b acc.data.toList w h hBw).mono ?_
  rintro e w' ⟨rfl,_,b1,_⟩
  exact ⟨rfl,b1⟩
end Go.Proofs.YtljcljipppjnoaaGreatDoor
