/- texts put together: NfAwk, NfSz, LawNfR, NfBrK. -/
import Derived.Test.YtmfgplbfojnkdaaNf00
import Derived.Test.YtmfgplbfojnkdaaNf01
import Derived.Test.YtmfgplbfojnkdaaNf02
import Derived.Test.YtmfgplbfojnkdaaNf03
import Derived.Test.YtmfgplbfojnkdaaNf04
import Derived.Test.YtmfgplbfojnkdaaNf05
import Derived.Test.YtmfgplbfojnkdaaNf06
import Derived.Test.YtmfgplbfojnkdaaNf07
import Derived.Test.YtmfgplbfojnkdaaNf08
import Derived.Test.YtmfgplbfojnkdaaNf09
import Derived.Test.YtmfgplbfojnkdaaNf10
import Derived.Test.YtmfgplbfojnkdaaNf11
import Derived.Test.YtmfgplbfojnkdaaNf12
import Derived.Test.YtmfgplbfojnkdaaNf13
import Derived.Test.YtmfgplbfojnkdaaNf14
import Derived.Test.YtmfgplbfojnkdaaNf15
import Derived.Test.YtmfgplbfojnkdaaNf16
import Derived.Test.YtmfgplbfojnkdaaNf17
import Derived.Test.YtmfgplbfojnkdaaNf18
import Derived.Test.YtmfgplbfojnkdaaNf19
import Derived.Test.YtmfgplbfojnkdaaNf20
import Derived.Test.YtmfgplbfojnkdaaNf21
import Derived.Test.YtmfgplbfojnkdaaNf22
import Derived.Test.YtmfgplbfojnkdaaNf23
import Derived.Test.YtmfgplbfojnkdaaNf24
import Derived.Test.YtmfgplbfojnkdaaNb00
import Derived.Test.YtmfgplbfojnkdaaNb09
import Derived.Test.YtmfgplbfojnkdaaNb10
namespace Go.Proofs.Ytmfgplbfojnkdaa
open Go Go.RowKit Go.ChangeShapes cl rx
def Mch (w0 : World) (n : Array Value) (d : Nat) (x : Pat) : Prop := ∀ W, Below w0.heap.size w0 W → ∀ (T : ByteArray), T.size ≤ 10000 → Calls Try.prog 13 #[.agg n, .string T] W fun e w' => e = .returned (.bool (nf.runs d x (kit.bytes T))) ∧ Below W.heap.size W w'
theorem Mch.next {w0 w1 : World} {n : Array Value} {d : Nat} {x : Pat} (h : Mch w0 n d x) (hb : Below w0.heap.size w0 w1) : Mch w1 n d x := fun W hW => h W (hb.trans (hW.mono hb.size))
theorem bld_open {d : Nat} {x : Pat} {w w' : World} {en : Ending} (ho : okP d x) (h : BldP d x w en w') : ∃ (sz fi : Nat) (eo : Option Addr) (m ec : Nat), en = .returned (.tuple #[.agg #[.int .i64 (sz : Int), .int .i64 0, .int .i64 (fi : Int), .slice eo m ec], .int .i64 (nf.code d x)]) ∧ Below w.heap.size w w' ∧ (nf.code d x = 0 → Mch w' #[.int .i64 (sz : Int), .int .i64 0, .int .i64 (fi : Int), .slice eo m ec] d x) := by
 obtain ⟨sl, rfl, ho3, hb⟩ := h
 obtain ⟨eo, ec, rfl⟩ : ∃ eo ec, sl = .slice eo (nf.made d x).es.length ec := by
  rcases ho3.2 with ⟨rfl, h0⟩ | ⟨g, c, cur, rfl, _⟩
  ·
   exact ⟨none, 0, by rw [h0]⟩
  ·
   exact ⟨_, _, rfl⟩
 by_cases hc : nf.code d x = 0
 ·
  refine ⟨_, 1, eo, _, ec, by rw [if_pos hc]; rfl, hb, fun _ W hW T hT => ?_⟩
  exact nf_run _ 0 1 _ eo _ ec T W (nf.made_rgt hc) rfl ((Cells.own ho3).next hW) (nf.made_cls ho hc) hT
 ·
  exact ⟨_, 0, eo, _, ec, by rw [if_neg hc]; rfl, hb, fun h0 => absurd h0 hc⟩
theorem rx_pair {d : Nat} {w : World} {cx cy : List Value} {x y : Pat} {T : TypeId} (k : Int) (hx : rxR d w w.heap.size cx x) (hy : rxR d w w.heap.size cy y) :
  rxR (d + 1) (w.alloc (.cells (cx ++ cy).toArray T)) (w.alloc (.cells (cx ++ cy).toArray T)).heap.size [.int .i64 k, .int .u64 0, .int .u64 0, .int .u64 0, .int .u64 0, .slice (some ⟨w.heap.size, 0, none⟩) 2 2, .int .i64 0, .int .i64 0] (.mk k .zero [x, y] 0 0) := by
 have lx : cx.length = 8 := by obtain ⟨_, _, _, rfl⟩ := rx_form hx; rfl
 have ly : cy.length = 8 := by obtain ⟨_, _, _, rfl⟩ := rx_form hy; rfl
 have b1 : Below w.heap.size w (w.alloc (.cells (cx ++ cy).toArray T)) := below1
 have hn := heap_alloc_new w (.cells (cx ++ cy).toArray T)
 have hC : Cells (w.alloc (.cells (cx ++ cy).toArray T)) (w.alloc (.cells (cx ++ cy).toArray T)).heap.size (.slice (some ⟨w.heap.size, 0, none⟩) 2 2) 2 8 [cx, cy].flatten := by
  refine ⟨by simp [lx, ly], some ⟨w.heap.size, 0, none⟩, 2, rfl, ⟨(fun e => by cases e), Nat.le_refl _⟩, by decide, fun _ => ⟨w.heap.size, 0, rfl, lt_of_block hn, fun j u hj => ?_⟩⟩
  rw [Nat.zero_add]
  exact boxc hn j u (by simpa using hj)
 refine ⟨some ⟨w.heap.size, 0, none⟩, 2, 2, rfl, [cx, cy], rfl, fun j c z hc hz => ?_, hC⟩
 match j, hc, hz with
 | 0, hc, hz => cases hc; cases hz; exact ⟨lx, rxR_steady d _ _ _ _ _ _ hx b1 b1.size⟩
 | 1, hc, hz => cases hc; cases hz; exact ⟨ly, rxR_steady d _ _ _ _ _ _ hy b1 b1.size⟩
end Go.Proofs.Ytmfgplbfojnkdaa

