/- law LabelOrder. -/
import Derived.Test.YtpfjmomdnegcpaaLabAwake
import Derived.Test.YtpfjmomdnegcpaaLabOrd
import Derived.Test.YtpfjmomdnegcpaaLabRLess
namespace Go.Proofs.Ytpfjmomdnegcpaa
open Go.RowKit Go.ChangeShapes cl

set_option maxHeartbeats 3200000 in
set_option maxRecDepth 100000 in
theorem order_any (a b c : List Lab) (va vb vc : Value) (w : World) (ha : Labs w w.heap.size va a) (hb : Labs w w.heap.size vb b) (hc : Labs w w.heap.size vc c) (sa : ∀ x ∈ a, x.1.size ≤ maxLen ∧ x.2.size ≤ maxLen) (sb : ∀ x ∈ b, x.1.size ≤ maxLen ∧ x.2.size ≤ maxLen) (sc : ∀ x ∈ c, x.1.size ≤ maxLen ∧ x.2.size ≤ maxLen) (hm : MX w) : Calls Try.prog 8 #[va, vb, vc] w (Said true w) := by
  have Ha : Hid (∀ W, Below w.heap.size w W → Labs W W.heap.size va a) := fun W hW => (Cells.below ha hW).mono hW.size
  have Hb : Hid (∀ W, Below w.heap.size w W → Labs W W.heap.size vb b) := fun W hW => (Cells.below hb hW).mono hW.size
  have Hc : Hid (∀ W, Below w.heap.size w W → Labs W W.heap.size vc c) := fun W hW => (Cells.below hc hW).mono hW.size
  have AW : Hid (∀ W, Below w.heap.size w W → Calls Try.prog 9 #[] W (Said true W)) := fun W hW => awake_any W (MX.next hm hW)
  have B : Below w.heap.size w w := Below.refl _ _
  have Fa : Hid (∀ W, Below w.heap.size w W → Calls Try.prog 14 #[va] W (Far a W)) := fun W hW => far_any a va W (Ha.out W hW) sa
  have Fb : Hid (∀ W, Below w.heap.size w W → Calls Try.prog 14 #[vb] W (Far b W)) := fun W hW => far_any b vb W (Hb.out W hW) sb
  have Fc : Hid (∀ W, Below w.heap.size w W → Calls Try.prog 14 #[vc] W (Far c W)) := fun W hW => far_any c vc W (Hc.out W hW) sc
  have Laa : Hid (∀ W, Below w.heap.size w W → Calls Try.prog 24 #[va, va] W (Said (lless a a) W)) := fun W hW => less_any a a va va W (Ha.out W hW) (Ha.out W hW)
  have Lab1 : Hid (∀ W, Below w.heap.size w W → Calls Try.prog 24 #[va, vb] W (Said (lless a b) W)) := fun W hW => less_any a b va vb W (Ha.out W hW) (Hb.out W hW)
  have Lba : Hid (∀ W, Below w.heap.size w W → Calls Try.prog 24 #[vb, va] W (Said (lless b a) W)) := fun W hW => less_any b a vb va W (Hb.out W hW) (Ha.out W hW)
  have Lbc : Hid (∀ W, Below w.heap.size w W → Calls Try.prog 24 #[vb, vc] W (Said (lless b c) W)) := fun W hW => less_any b c vb vc W (Hb.out W hW) (Hc.out W hW)
  have Lac : Hid (∀ W, Below w.heap.size w W → Calls Try.prog 24 #[va, vc] W (Said (lless a c) W)) := fun W hW => less_any a c va vc W (Ha.out W hW) (Hc.out W hW)
  have RL : Hid (∀ W, Below w.heap.size w W → Calls Try.prog 25 #[va, vb] W (Said (lless a b) W)) := fun W hW => rless_any a b va vb W (Ha.out W hW) (Hb.out W hW)
  have SM : Hid (∀ W, Below w.heap.size w W → Calls Try.prog 19 #[va, vb] W (Said (decide (a = b)) W)) := fun W hW => same_any a b va vb W (Ha.out W hW) (Hb.out W hW)
  rw [lless_irrefl a] at Laa
  clear ha hb hc sa sb sc hm Ha Hb Hc
  by_cases hab : a = b
  · have hl : lless a b = false := by rw [hab]; exact lless_irrefl b
    have hl2 : lless b a = false := by rw [hab]; exact lless_irrefl b
    rw [hl] at Lab1 RL
    rw [hl2] at Lba
    rw [decide_eq_true hab] at SM
    clear hab hl hl2
    go_enter Try.func8, Try.ntmps8
    go_wp2_with fail
    (with_reducible refine (Fa.out _ B).mono ?_)
    rintro e wX ⟨rr, rfl, n1, b⟩
    replace B := B.trans (b.mono B.size)
    clear b
    cases rr with
    | true =>
      clear n1
      go_wp2_with fail
      (with_reducible refine (AW.out _ B).mono ?_)
      rintro e wX ⟨rfl, b⟩
      replace B := B.trans (b.mono B.size)
      clear b
      go_wp2
      go_ret
      exact ⟨rfl, B⟩
    | false =>
      clear n1
      go_wp2_with fail
      (with_reducible refine (Fb.out _ B).mono ?_)
      rintro e wX ⟨rr, rfl, n2, b⟩
      replace B := B.trans (b.mono B.size)
      clear b
      cases rr with
      | true =>
        clear n2
        go_wp2_with fail
        (with_reducible refine (AW.out _ B).mono ?_)
        rintro e wX ⟨rfl, b⟩
        replace B := B.trans (b.mono B.size)
        clear b
        go_wp2
        go_ret
        exact ⟨rfl, B⟩
      | false =>
        clear n2
        go_wp2_with fail
        (with_reducible refine (Fc.out _ B).mono ?_)
        rintro e wX ⟨rr, rfl, n3, b⟩
        replace B := B.trans (b.mono B.size)
        clear b
        cases rr with
        | true =>
          clear n3
          go_wp2_with fail
          (with_reducible refine (AW.out _ B).mono ?_)
          rintro e wX ⟨rfl, b⟩
          replace B := B.trans (b.mono B.size)
          clear b
          go_wp2
          go_ret
          exact ⟨rfl, B⟩
        | false =>
          clear n3
          go_wp2_with fail
          (with_reducible refine (Laa.out _ B).mono ?_)
          rintro e wX ⟨rfl, b⟩
          replace B := B.trans (b.mono B.size)
          clear b
          go_wp2_with fail
          (with_reducible refine (Lab1.out _ B).mono ?_)
          rintro e wX ⟨rfl, b⟩
          replace B := B.trans (b.mono B.size)
          clear b
          go_wp2_with fail
          (with_reducible refine (SM.out _ B).mono ?_)
          rintro e wX ⟨rfl, b⟩
          replace B := B.trans (b.mono B.size)
          clear b
          go_wp2_with fail
          (with_reducible refine (Lab1.out _ B).mono ?_)
          rintro e wX ⟨rfl, b⟩
          replace B := B.trans (b.mono B.size)
          clear b
          go_wp2_with fail
          (with_reducible refine (Lab1.out _ B).mono ?_)
          rintro e wX ⟨rfl, b⟩
          replace B := B.trans (b.mono B.size)
          clear b
          go_wp2_with fail
          (with_reducible refine (RL.out _ B).mono ?_)
          rintro e wX ⟨rfl, b⟩
          replace B := B.trans (b.mono B.size)
          clear b
          go_wp2_with fail
          (with_reducible refine (AW.out _ B).mono ?_)
          rintro e wX ⟨rfl, b⟩
          replace B := B.trans (b.mono B.size)
          clear b
          go_wp2
          go_ret
          exact ⟨rfl, B⟩
  · rw [decide_eq_false hab] at SM
    cases hl : lless a b with
    | false =>
      have hl2 : lless b a = true := (lless_total hab).resolve_left (by rw [hl]; exact Bool.false_ne_true)
      rw [hl] at Lab1 RL
      rw [hl2] at Lba
      clear hab hl hl2
      go_enter Try.func8, Try.ntmps8
      go_wp2_with fail
      (with_reducible refine (Fa.out _ B).mono ?_)
      rintro e wX ⟨rr, rfl, n1, b⟩
      replace B := B.trans (b.mono B.size)
      clear b
      cases rr with
      | true =>
        clear n1
        go_wp2_with fail
        (with_reducible refine (AW.out _ B).mono ?_)
        rintro e wX ⟨rfl, b⟩
        replace B := B.trans (b.mono B.size)
        clear b
        go_wp2
        go_ret
        exact ⟨rfl, B⟩
      | false =>
        clear n1
        go_wp2_with fail
        (with_reducible refine (Fb.out _ B).mono ?_)
        rintro e wX ⟨rr, rfl, n2, b⟩
        replace B := B.trans (b.mono B.size)
        clear b
        cases rr with
        | true =>
          clear n2
          go_wp2_with fail
          (with_reducible refine (AW.out _ B).mono ?_)
          rintro e wX ⟨rfl, b⟩
          replace B := B.trans (b.mono B.size)
          clear b
          go_wp2
          go_ret
          exact ⟨rfl, B⟩
        | false =>
          clear n2
          go_wp2_with fail
          (with_reducible refine (Fc.out _ B).mono ?_)
          rintro e wX ⟨rr, rfl, n3, b⟩
          replace B := B.trans (b.mono B.size)
          clear b
          cases rr with
          | true =>
            clear n3
            go_wp2_with fail
            (with_reducible refine (AW.out _ B).mono ?_)
            rintro e wX ⟨rfl, b⟩
            replace B := B.trans (b.mono B.size)
            clear b
            go_wp2
            go_ret
            exact ⟨rfl, B⟩
          | false =>
            clear n3
            go_wp2_with fail
            (with_reducible refine (Laa.out _ B).mono ?_)
            rintro e wX ⟨rfl, b⟩
            replace B := B.trans (b.mono B.size)
            clear b
            go_wp2_with fail
            (with_reducible refine (Lab1.out _ B).mono ?_)
            rintro e wX ⟨rfl, b⟩
            replace B := B.trans (b.mono B.size)
            clear b
            go_wp2_with fail
            (with_reducible refine (SM.out _ B).mono ?_)
            rintro e wX ⟨rfl, b⟩
            replace B := B.trans (b.mono B.size)
            clear b
            go_wp2_with fail
            (with_reducible refine (Lab1.out _ B).mono ?_)
            rintro e wX ⟨rfl, b⟩
            replace B := B.trans (b.mono B.size)
            clear b
            go_wp2_with fail
            (with_reducible refine (Lba.out _ B).mono ?_)
            rintro e wX ⟨rfl, b⟩
            replace B := B.trans (b.mono B.size)
            clear b
            go_wp2_with fail
            (with_reducible refine (Lab1.out _ B).mono ?_)
            rintro e wX ⟨rfl, b⟩
            replace B := B.trans (b.mono B.size)
            clear b
            go_wp2_with fail
            (with_reducible refine (Lab1.out _ B).mono ?_)
            rintro e wX ⟨rfl, b⟩
            replace B := B.trans (b.mono B.size)
            clear b
            go_wp2_with fail
            (with_reducible refine (RL.out _ B).mono ?_)
            rintro e wX ⟨rfl, b⟩
            replace B := B.trans (b.mono B.size)
            clear b
            go_wp2_with fail
            (with_reducible refine (AW.out _ B).mono ?_)
            rintro e wX ⟨rfl, b⟩
            replace B := B.trans (b.mono B.size)
            clear b
            go_wp2
            go_ret
            exact ⟨rfl, B⟩
    | true =>
      have hl2 : lless b a = false := by
        cases h : lless b a with
        | false => rfl
        | true => exact (lless_asymm hl h).elim
      rw [hl] at Lab1 RL
      rw [hl2] at Lba
      cases hbc : lless b c with
      | false =>
        rw [hbc] at Lbc
        clear hab hl hl2 hbc
        go_enter Try.func8, Try.ntmps8
        go_wp2_with fail
        (with_reducible refine (Fa.out _ B).mono ?_)
        rintro e wX ⟨rr, rfl, n1, b⟩
        replace B := B.trans (b.mono B.size)
        clear b
        cases rr with
        | true =>
          clear n1
          go_wp2_with fail
          (with_reducible refine (AW.out _ B).mono ?_)
          rintro e wX ⟨rfl, b⟩
          replace B := B.trans (b.mono B.size)
          clear b
          go_wp2
          go_ret
          exact ⟨rfl, B⟩
        | false =>
          clear n1
          go_wp2_with fail
          (with_reducible refine (Fb.out _ B).mono ?_)
          rintro e wX ⟨rr, rfl, n2, b⟩
          replace B := B.trans (b.mono B.size)
          clear b
          cases rr with
          | true =>
            clear n2
            go_wp2_with fail
            (with_reducible refine (AW.out _ B).mono ?_)
            rintro e wX ⟨rfl, b⟩
            replace B := B.trans (b.mono B.size)
            clear b
            go_wp2
            go_ret
            exact ⟨rfl, B⟩
          | false =>
            clear n2
            go_wp2_with fail
            (with_reducible refine (Fc.out _ B).mono ?_)
            rintro e wX ⟨rr, rfl, n3, b⟩
            replace B := B.trans (b.mono B.size)
            clear b
            cases rr with
            | true =>
              clear n3
              go_wp2_with fail
              (with_reducible refine (AW.out _ B).mono ?_)
              rintro e wX ⟨rfl, b⟩
              replace B := B.trans (b.mono B.size)
              clear b
              go_wp2
              go_ret
              exact ⟨rfl, B⟩
            | false =>
              clear n3
              go_wp2_with fail
              (with_reducible refine (Laa.out _ B).mono ?_)
              rintro e wX ⟨rfl, b⟩
              replace B := B.trans (b.mono B.size)
              clear b
              go_wp2_with fail
              (with_reducible refine (Lab1.out _ B).mono ?_)
              rintro e wX ⟨rfl, b⟩
              replace B := B.trans (b.mono B.size)
              clear b
              go_wp2_with fail
              (with_reducible refine (Lba.out _ B).mono ?_)
              rintro e wX ⟨rfl, b⟩
              replace B := B.trans (b.mono B.size)
              clear b
              go_wp2_with fail
              (with_reducible refine (SM.out _ B).mono ?_)
              rintro e wX ⟨rfl, b⟩
              replace B := B.trans (b.mono B.size)
              clear b
              go_wp2_with fail
              (with_reducible refine (Lab1.out _ B).mono ?_)
              rintro e wX ⟨rfl, b⟩
              replace B := B.trans (b.mono B.size)
              clear b
              go_wp2_with fail
              (with_reducible refine (Lab1.out _ B).mono ?_)
              rintro e wX ⟨rfl, b⟩
              replace B := B.trans (b.mono B.size)
              clear b
              go_wp2_with fail
              (with_reducible refine (Lbc.out _ B).mono ?_)
              rintro e wX ⟨rfl, b⟩
              replace B := B.trans (b.mono B.size)
              clear b
              go_wp2_with fail
              (with_reducible refine (Lab1.out _ B).mono ?_)
              rintro e wX ⟨rfl, b⟩
              replace B := B.trans (b.mono B.size)
              clear b
              go_wp2_with fail
              (with_reducible refine (RL.out _ B).mono ?_)
              rintro e wX ⟨rfl, b⟩
              replace B := B.trans (b.mono B.size)
              clear b
              go_wp2_with fail
              (with_reducible refine (AW.out _ B).mono ?_)
              rintro e wX ⟨rfl, b⟩
              replace B := B.trans (b.mono B.size)
              clear b
              go_wp2
              go_ret
              exact ⟨rfl, B⟩
      | true =>
        have hac : lless a c = true := lless_trans hl hbc
        rw [hbc] at Lbc
        rw [hac] at Lac
        clear hab hl hl2 hbc hac
        go_enter Try.func8, Try.ntmps8
        go_wp2_with fail
        (with_reducible refine (Fa.out _ B).mono ?_)
        rintro e wX ⟨rr, rfl, n1, b⟩
        replace B := B.trans (b.mono B.size)
        clear b
        cases rr with
        | true =>
          clear n1
          go_wp2_with fail
          (with_reducible refine (AW.out _ B).mono ?_)
          rintro e wX ⟨rfl, b⟩
          replace B := B.trans (b.mono B.size)
          clear b
          go_wp2
          go_ret
          exact ⟨rfl, B⟩
        | false =>
          clear n1
          go_wp2_with fail
          (with_reducible refine (Fb.out _ B).mono ?_)
          rintro e wX ⟨rr, rfl, n2, b⟩
          replace B := B.trans (b.mono B.size)
          clear b
          cases rr with
          | true =>
            clear n2
            go_wp2_with fail
            (with_reducible refine (AW.out _ B).mono ?_)
            rintro e wX ⟨rfl, b⟩
            replace B := B.trans (b.mono B.size)
            clear b
            go_wp2
            go_ret
            exact ⟨rfl, B⟩
          | false =>
            clear n2
            go_wp2_with fail
            (with_reducible refine (Fc.out _ B).mono ?_)
            rintro e wX ⟨rr, rfl, n3, b⟩
            replace B := B.trans (b.mono B.size)
            clear b
            cases rr with
            | true =>
              clear n3
              go_wp2_with fail
              (with_reducible refine (AW.out _ B).mono ?_)
              rintro e wX ⟨rfl, b⟩
              replace B := B.trans (b.mono B.size)
              clear b
              go_wp2
              go_ret
              exact ⟨rfl, B⟩
            | false =>
              clear n3
              go_wp2_with fail
              (with_reducible refine (Laa.out _ B).mono ?_)
              rintro e wX ⟨rfl, b⟩
              replace B := B.trans (b.mono B.size)
              clear b
              go_wp2_with fail
              (with_reducible refine (Lab1.out _ B).mono ?_)
              rintro e wX ⟨rfl, b⟩
              replace B := B.trans (b.mono B.size)
              clear b
              go_wp2_with fail
              (with_reducible refine (Lba.out _ B).mono ?_)
              rintro e wX ⟨rfl, b⟩
              replace B := B.trans (b.mono B.size)
              clear b
              go_wp2_with fail
              (with_reducible refine (SM.out _ B).mono ?_)
              rintro e wX ⟨rfl, b⟩
              replace B := B.trans (b.mono B.size)
              clear b
              go_wp2_with fail
              (with_reducible refine (Lab1.out _ B).mono ?_)
              rintro e wX ⟨rfl, b⟩
              replace B := B.trans (b.mono B.size)
              clear b
              go_wp2_with fail
              (with_reducible refine (Lab1.out _ B).mono ?_)
              rintro e wX ⟨rfl, b⟩
              replace B := B.trans (b.mono B.size)
              clear b
              go_wp2_with fail
              (with_reducible refine (Lbc.out _ B).mono ?_)
              rintro e wX ⟨rfl, b⟩
              replace B := B.trans (b.mono B.size)
              clear b
              go_wp2_with fail
              (with_reducible refine (Lac.out _ B).mono ?_)
              rintro e wX ⟨rfl, b⟩
              replace B := B.trans (b.mono B.size)
              clear b
              go_wp2_with fail
              (with_reducible refine (Lab1.out _ B).mono ?_)
              rintro e wX ⟨rfl, b⟩
              replace B := B.trans (b.mono B.size)
              clear b
              go_wp2_with fail
              (with_reducible refine (RL.out _ B).mono ?_)
              rintro e wX ⟨rfl, b⟩
              replace B := B.trans (b.mono B.size)
              clear b
              go_wp2_with fail
              (with_reducible refine (AW.out _ B).mono ?_)
              rintro e wX ⟨rfl, b⟩
              replace B := B.trans (b.mono B.size)
              clear b
              go_wp2
              go_ret
              exact ⟨rfl, B⟩
end Go.Proofs.Ytpfjmomdnegcpaa
