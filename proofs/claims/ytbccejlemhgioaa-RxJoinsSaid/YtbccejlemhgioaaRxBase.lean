/- patterns in memory, and the reader's variable. -/
import Derived.Test.YtbccejlemhgioaaRows
import Derived.Test.YtbccejlemhgioaaFrX
import Derived.Test.YtbccejlemhgioaaRxMath
namespace Go.Proofs.Ytbccejlemhgioaa
open Go Go.RowKit Go.ChangeShapes cl rx
/-- a class as four cells -/
def clsC (k : Cls) : List Value := [.int .u64 k.a, .int .u64 k.b, .int .u64 k.c, .int .u64 k.d]
/-- eight cells stand for a pattern, with less than so many within one another -/
def rxR : Nat → Rel Pat
  | 0 => fun _ _ _ _ => False
  | d + 1 => fun w B c x => ∃ (ko : Option Addr) (kn kc : Nat), c = [.int .i64 x.k, .int .u64 x.cl.a, .int .u64 x.cl.b, .int .u64 x.cl.c, .int .u64 x.cl.d, .slice ko kn kc, .int .i64 x.mn, .int .i64 x.mx] ∧ RowsAt 8 (rxR d) w B (.slice ko kn kc) x.ks
theorem rxR_steady : ∀ d, Steady (rxR d)
  | 0 => fun _ _ _ _ _ _ h _ _ => h.elim
  | d + 1 => fun _ _ _ _ _ _ ⟨ko, kn, kc, e, hk⟩ hb hB => ⟨ko, kn, kc, e, hk.below (rxR_steady d) hb hB⟩
theorem rx_form : ∀ {d : Nat} {w : World} {B : Nat} {c : List Value} {x : Pat}, rxR d w B c x → ∃ (ko : Option Addr) (kn kc : Nat), c = [.int .i64 x.k, .int .u64 x.cl.a, .int .u64 x.cl.b, .int .u64 x.cl.c, .int .u64 x.cl.d, .slice ko kn kc, .int .i64 x.mn, .int .i64 x.mx]
  | 0, _, _, _, _, h => h.elim
  | _ + 1, _, _, _, _, ⟨ko, kn, kc, e, _⟩ => ⟨ko, kn, kc, e⟩
theorem rxrows_imp {α : Type} {k : Nat} {R R' : Rel α} {w : World} {B : Nat} {v : Value} {l : List α} (h : RowsAt k R w B v l) (hi : ∀ c x, R w B c x → R' w B c x) : RowsAt k R' w B v l := by
  obtain ⟨cs, h0, h1, h2⟩ := h
  exact ⟨cs, h0, fun j c x hc hx => ⟨(h1 j c x hc hx).1, hi _ _ (h1 j c x hc hx).2⟩, h2⟩
theorem rxR_up : ∀ (d : Nat) (w : World) (B : Nat) (c : List Value) (x : Pat), rxR d w B c x → rxR (d + 1) w B c x
  | 0, _, _, _, _, h => h.elim
  | d + 1, w, B, _, _, ⟨ko, kn, kc, e, hk⟩ => ⟨ko, kn, kc, e, rxrows_imp hk (fun c x h => rxR_up d w B c x h)⟩
theorem rxR_le {d e : Nat} (h : d ≤ e) {w : World} {B : Nat} {c : List Value} {x : Pat} (hc : rxR d w B c x) : rxR e w B c x := by
  induction h with
  | refl => exact hc
  | step _ ih => exact rxR_up _ _ _ _ _ ih
/-- a pattern without kids lies nowhere -/
theorem rx_leaf {d : Nat} {w : World} {B : Nat} {k mn mx : Int} {cl : Cls} : rxR (d + 1) w B [.int .i64 k, .int .u64 cl.a, .int .u64 cl.b, .int .u64 cl.c, .int .u64 cl.d, .slice none 0 0, .int .i64 mn, .int .i64 mx] (.mk k cl [] mn mx) := ⟨none, 0, 0, rfl, RowsAt.nil _ _⟩
theorem infoRx : (Try.prog.info? 28).map (fun i => (i.zero, i.size, i.bytes)) = some (some (.agg #[.int .i64 0, .int .u64 0, .int .u64 0, .int .u64 0, .int .u64 0, .slice none 0 0, .int .i64 0, .int .i64 0]), 8, 80) := by kernel_rfl
theorem rsize : (Try.prog.info? 28).map (·.size) = some 8 := by kernel_rfl
theorem clsize : (Try.prog.info? 25).map (·.size) = some 4 := by kernel_rfl
/-- the reader's variable -/
def Rd (q : Nat) (S : ByteArray) (t : St) (W : World) : Prop := W.heap[q]? = some (.cells #[.string S, .int .i64 (t.p : Int), .int .i64 t.dp, .int .i64 t.wr, .int .i64 t.co] 44)
theorem Rd.next {q : Nat} {S : ByteArray} {t : St} {W W' : World} (h : Rd q S t W) (hb : Below W.heap.size W W') : Rd q S t W' := (hb.block q (lt_of_block h)).trans h
theorem Rd.keep {q p : Nat} {S : ByteArray} {t : St} {W W' : World} (h : Rd q S t W) (hk : KX p W W') (hp : q ≠ p) : Rd q S t W' := (hk.2.2 q (lt_of_block h) hp).trans h
/-- behind a call of the reader: where it stands then, and nothing else is as it was not -/
def RK (q : Nat) (S : ByteArray) (t : St) (w w' : World) : Prop := Rd q S t w' ∧ KX q w w'
/-- .. with a pattern -/
def RxA (d q : Nat) (S : ByteArray) (r : Pat × St) (w : World) (e : Ending) (w' : World) : Prop :=
  ∃ c, e = .returned (.agg (List.toArray c)) ∧ Fre w.heap.size w' (fun W => rxR d W W.heap.size c r.1) ∧ RK q S r.2 w w'
theorem byte_at {S : ByteArray} {p : Nat} (h : p < S.size) : (kit.bytes S)[p]? = some (S[p]'h).toNat := by
  have hl : (kit.bytes S).length = S.size := by simp [kit.bytes]
  rw [List.getElem?_eq_getElem (by omega)]
  simp [kit.bytes]
  rfl
theorem byte_no {S : ByteArray} {p : Nat} (h : S.size ≤ p) : (kit.bytes S)[p]? = none := by
  have hl : (kit.bytes S).length = S.size := by simp [kit.bytes]
  exact List.getElem?_eq_none (by omega)
end Go.Proofs.Ytbccejlemhgioaa
