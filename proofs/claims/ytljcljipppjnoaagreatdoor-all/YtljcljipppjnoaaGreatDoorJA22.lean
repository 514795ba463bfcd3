import Derived.Test.YtljcljipppjnoaaGreatDoorJA01
import Derived.Test.YtljcljipppjnoaaGreatDoorJA05
namespace Go.Proofs.YtljcljipppjnoaaGreatDoor
open Go.RowKit Go.Shelf
def HasL (B b:Nat) (acc:List UInt8) (w:World):Prop:=Lib.IsBuilderF 191 5 B b (Lib.byteCells acc) w
theorem HasL.below {B b:Nat} {acc:List UInt8} {w w':World} (h:HasL B b acc w) (hk:Below w.heap.size w w'):HasL B b acc w':=by
  have key:∀ p,Lib.BuilderAtF 191 5 B b p (Lib.byteCells acc) w→Lib.BuilderAtF 191 5 B b p (Lib.byteCells acc) w':=by
    intro p h
    obtain ⟨hB,v,hb,hown,hne⟩:=h
    have hbl:b < w.heap.size:=(Array.getElem?_eq_some_iff.1 hb).1
    refine ⟨hB,v,(hk.block b hbl).trans hb,⟨hown.1,?_⟩,hne⟩
    rcases hown.2 with hn | ⟨g,cap,cur,fz,hv,hbg,hg,rest⟩
    · exact .inl hn
    · have hgl:g < w.heap.size:=(Array.getElem?_eq_some_iff.1 hg).1
      exact .inr ⟨g,cap,cur,fz,hv,hbg,(hk.block g hgl).trans hg,rest⟩
  exact h.elim (fun x=>.inl (key _ x)) (fun x=>.inr (key _ x))
theorem hasL_string (B b:Nat) (acc l:List UInt8) (w:World) (h:HasL B b acc w) (hlen:acc.length+l.length≤140737488355328) (hBw:B≤w.heap.size) :
    Calls Tryz.prog 121 #[.pointer (some ⟨b,0,none⟩),.string ⟨l.toArray⟩] w fun e w'=>e=.returned (.tuple #[.int .i64 l.length,.nilIface])∧HasL B b (acc++l) w'∧Below B w w':=by
  refine (bld_string B b _ ⟨l.toArray⟩ w h (by rw [Lib.byteCells_length,size_of];exact hlen) hBw).mono ?_
  rintro e w' ⟨rfl,h1,b1,_⟩
  refine ⟨by rw [size_of],?_,b1⟩
  unfold HasL
  rw [Lib.byteCells_append]
  exact Or.inr h1
theorem hasL_byte (B b:Nat) (acc:List UInt8) (w:World) (h:HasL B b acc w) (hlen:acc.length+1≤140737488355328) (hBw:B≤w.heap.size) :
    Calls Tryz.prog 104 #[.pointer (some ⟨b,0,none⟩),.int .u8 10] w fun e w'=>e=.returned .nilIface∧HasL B b (acc++[10]) w'∧Below B w w':=by
  refine (bld_byte B b _ 10 w h (by rw [Lib.byteCells_length];exact hlen) hBw).mono ?_
  rintro e w' ⟨rfl,h1,b1,_⟩
  refine ⟨rfl,?_,b1⟩
  unfold HasL
  rw [Lib.byteCells_append]
  exact Or.inr h1
def Row8 (W:World) (b:Nat):Prop:=∃ c fz,W.heap[b]?=some (.cells c 5 fz)
theorem HasL.at {B b:Nat} {p:List UInt8} {W:World} (h:HasL B b p W):B≤b∧∃ x v,W.heap[b]?=some (.cells #[x,v] 191 (0,0))∧W.ownsRowF B 5 1 v (Lib.byteCells p).length (Lib.byteCells p)∧v.ownBlock ≠ some b:=by
  rcases h with ⟨hB,v,hb,ho,hn⟩ | ⟨hB,v,hb,ho,hn⟩
  · exact ⟨hB,_,v,hb,ho,hn⟩
  · exact ⟨hB,_,v,hb,ho,hn⟩
theorem HasL.lt {B b:Nat} {p:List UInt8} {W:World} (h:HasL B b p W):b < W.heap.size:=by
  obtain ⟨_,x,v,hb,_⟩:=h.at
  exact (Array.getElem?_eq_some_iff.1 hb).1
theorem HasL.keep {B b:Nat} {p:List UInt8} {W w':World} (h:HasL B b p W) (h1:w'.heap[b]?=W.heap[b]?) (h2:∀ g,Row8 W g→w'.heap[g]?=W.heap[g]?):HasL B b p w':=by
  have key:∀ x,Lib.BuilderAtF 191 5 B b x (Lib.byteCells p) W→Lib.BuilderAtF 191 5 B b x (Lib.byteCells p) w':=by
    intro x hx
    obtain ⟨hB,v,hb,hown,hne⟩:=hx
    refine ⟨hB,v,h1.trans hb,⟨hown.1,?_⟩,hne⟩
    rcases hown.2 with hn | ⟨g,cap,cur,fz,hv,hbg,hg,rest⟩
    · exact .inl hn
    · exact .inr ⟨g,cap,cur,fz,hv,hbg,(h2 g ⟨_,_,hg⟩).trans hg,rest⟩
  exact h.elim (fun x=>.inl (key _ x)) (fun x=>.inr (key _ x))
theorem oth_cell {b bT B:Nat} {p:List UInt8} {c:Array Value} {T:TypeId} {fz:Nat × Nat} {W w':World} (hH:HasL B bT p W) (hO:Lib.OthersKept 5 (some bT) W w') (hb:W.heap[b]?=some (.cells c T fz)) (h1:T ≠ 5) (h2:T ≠ 191):w'.heap[b]?=some (.cells c T fz):=by
  obtain ⟨_,x,v,hbT,_⟩:=hH.at
  refine hO b _ hb (fun h=>?_) (fun c' fz' h=>?_)
  · injection h with h
    subst h
    rw [hb] at hbT
    injection hbT with hbT
    injection hbT with _ hbT _
    exact h2 hbT
  · injection h with _ h _
    exact h1 h
theorem hasL_write (B b:Nat) (acc l:List UInt8) (w:World) (h:HasL B b acc w) (hlen:acc.length+l.length≤140737488355328) (hBw:B≤w.heap.size) :
    Calls Tryz.prog 121 #[.pointer (some ⟨b,0,none⟩),.string ⟨l.toArray⟩] w fun e w'=>e=.returned (.tuple #[.int .i64 l.length,.nilIface])∧HasL B b (acc++l) w'∧Below B w w'∧Lib.OthersKept 5 (some b) w w':=by
  refine (bld_string B b _ ⟨l.toArray⟩ w h (by rw [Lib.byteCells_length,size_of];exact hlen) hBw).mono ?_
  rintro e w' ⟨rfl,h1,b1,o1⟩
  refine ⟨by rw [size_of],?_,b1,o1⟩
  unfold HasL
  rw [Lib.byteCells_append]
  exact Or.inr h1
theorem hasL_get (B b:Nat) (acc:List UInt8) (w:World) (h:HasL B b acc w) (hBw:B≤w.heap.size) :
    Calls Tryz.prog 106 #[.pointer (some ⟨b,0,none⟩)] w fun e w'=>e=.returned (.string ⟨acc.toArray⟩)∧HasL B b acc w'∧Below B w w'∧Lib.OthersKept 5 (some b) w w' :=
  bld_all B b acc w h hBw
end Go.Proofs.YtljcljipppjnoaaGreatDoor
