/- the law of patterns is awake. -/
import Derived.Test.YtbccejlemhgioaaRxRight
import Derived.Test.YtbccejlemhgioaaRxParse
import Derived.Test.YtbccejlemhgioaaRxCls
namespace Go.Proofs.Ytbccejlemhgioaa
open Go Go.RowKit Go.ChangeShapes cl rx
/-- the law's answer -/
def Said (b : Bool) (w : World) : Ending → World → Prop := fun e w' => e = .returned (.bool b) ∧ Below w.heap.size w w'
def pA : Pat := .mk 4 .zero [.ofCls (.one 97), .mk 3 .zero [.ofCls (.one 98), .mk 5 .zero [.ofCls (.one 99)] 0 (-1)] 0 0] 0 0
theorem bytes_a : kit.bytes ⟨#[97, 124, 98, 99, 42]⟩ = [97, 124, 98, 99, 42] := by kernel_rfl
theorem bytes_b : kit.bytes ⟨#[97, 42, 42]⟩ = [97, 42, 42] := by kernel_rfl
theorem parse_a : parse [97, 124, 98, 99, 42] (onceS [97, 124, 98, 99, 42] spB) = (pA, 0, 0) := by kernel_rfl
theorem parse_b : parse [97, 42, 42] (onceS [97, 42, 42] spB) = (.zero, 2, 9) := by kernel_rfl
theorem okR_a : okR 48 pA = true := by kernel_rfl
theorem plain_a : ∀ c ∈ kit.bytes ⟨#[97, 124, 98, 99, 42]⟩, plainC c := by rw [bytes_a]; unfold plainC; decide
theorem plain_b : ∀ c ∈ kit.bytes ⟨#[97, 42, 42]⟩, plainC c := by rw [bytes_b]; unfold plainC; decide
set_option maxRecDepth 100000 in
theorem rx_pa (w : World) : Calls Try.prog 8 #[.string ⟨#[97, 124, 98, 99, 42]⟩] w (fun e w' => ∃ c, e = .returned (.tuple #[.agg (List.toArray c), .int .i64 0, .int .i64 0]) ∧ Fre w.heap.size w' (fun W => rxR 4 W W.heap.size c pA) ∧ Below w.heap.size w w') := by
  have h := rx_parse ⟨#[97, 124, 98, 99, 42]⟩ w (by decide) plain_a
  rw [bytes_a, parse_a] at h
  exact h
set_option maxRecDepth 100000 in
theorem rx_pb (w : World) : Calls Try.prog 8 #[.string ⟨#[97, 42, 42]⟩] w (fun e w' => ∃ c, e = .returned (.tuple #[.agg (List.toArray c), .int .i64 2, .int .i64 9]) ∧ Fre w.heap.size w' (fun W => rxR 4 W W.heap.size c .zero) ∧ Below w.heap.size w w') := by
  have h := rx_parse ⟨#[97, 42, 42]⟩ w (by decide) plain_b
  rw [bytes_b, parse_b] at h
  exact h
/-- element i of a pattern's kids -/
theorem kid_at {d : Nat} {w : World} {B : Nat} {ko : Option Addr} {kn kc : Nat} {l : List Pat} (h : RowsAt 8 (rxR d) w B (.slice ko kn kc) l) (hn : kn = l.length) (i : Nat) (hi : i < kn) :
    ∃ (b o : Nat) (so : Option Addr) (sn sc : Nat), ko = some ⟨b, o, none⟩ ∧ b < B ∧ sn = (l.getD i default).ks.length ∧ w.cell? ⟨b, o + i * 8, none⟩ = some (.int .i64 (l.getD i default).k) ∧ w.cell? ⟨b, o + i * 8 + 5, none⟩ = some (.slice so sn sc) ∧ w.cell? ⟨b, o + i * 8 + 7, none⟩ = some (.int .i64 (l.getD i default).mx) ∧ ∃ d', d = d' + 1 ∧ RowsAt 8 (rxR d') w B (.slice so sn sc) (l.getD i default).ks := by
  obtain ⟨b, o, c, rfl, hbB, hcl, hR, hC⟩ := h.get hn hi default
  cases d with
  | zero => exact hR.elim
  | succ d' =>
    obtain ⟨so, sn, sc, rfl, hK⟩ := hR
    obtain ⟨_, _, e, _, _⟩ := hK.form
    simp only [Value.slice.injEq] at e
    exact ⟨b, o, so, sn, sc, rfl, hbB, e.2.1, hC 0 _ rfl, hC 5 _ rfl, hC 7 _ rfl, d', rfl, hK⟩
end Go.Proofs.Ytbccejlemhgioaa
