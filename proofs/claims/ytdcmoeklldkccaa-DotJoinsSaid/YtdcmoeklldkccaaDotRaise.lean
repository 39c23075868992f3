/- the document's raise. -/
import Derived.Test.YtdcmoeklldkccaaDotBox
import Derived.Test.YtdcmoeklldkccaaDotPut
namespace Go.Proofs.Ytdcmoeklldkccaa
open Go Go.RowKit Go.ChangeShapes cl Go.Sort

theorem app1s {P : Program} {w : World} {ops : Array Oper} {rest : List Oper} {o : Oper} {a : Act} {Q : Exit → Act → World → Prop} {cs : Array Value} {e' : TypeId}
    (s x : Operand) (t : TypeId) (hgd : o.guard = none)
    (ho : o.op = .call { callee := .builtin .append, args := #[s, x], argTypes := #[t, t] })
    (base : Nat) {e : TypeId} {z : Value} {size bytes : Nat} (ht : P.underlying t = some (.slice e)) (hi : (P.info? e).map (fun i => (i.zero, i.size, i.bytes)) = some (some z, size, bytes))
    (hzs : z.cells.size = size) (hsz : 0 < size) (hb1 : 0 < bytes)
    {v : Value} {n : Nat} {xs : List Value} {c : Nat} (hown : w.ownsRow base e size v n xs) (hs : a.eval s = v) {g : Nat} (hx : a.eval x = .slice (some ⟨g, 0, none⟩) 1 c) (hgw : g = w.heap.size)
    (hcs : cs.size = size) (h1 : ∀ u ∈ cs.toList, u.oneCell' = true) (hbytes : (n + 1) * bytes ≤ 140737488355328) (hbase : base ≤ w.heap.size)
    (h : ∀ v' w', w'.ownsRow base e size v' (n + 1) (xs ++ cs.toList) → Below base w w' → wpList P ops Q rest (a.put o.dst v') w') :
    wpList P ops Q (o :: rest) a (w.alloc (.cells cs e')) := by
  subst hgw
  exact kit.app1 s x t hgd ho base ht hi hzs hsz hb1 hown hs hx hcs h1 hbytes hbase h
def neN (nd : Int) (d : Dot) : Bool := decide (d.1 ≠ nd)
def LayC (c' : dm.Ctx) (w : World) (e : Ending) (w' : World) : Prop := ∃ v, e = .returned v ∧ OwnC w.heap.size w' v c' ∧ Below w.heap.size w w'
theorem strict_up {l : List Dot} (h : l.Pairwise fun a b => dless a b = true) : dm.Up l := h.imp fun {a b} hab => by
  cases hc : dless b a with
  | false => rfl
  | true => exact (dm.dless_asymm hab hc).elim
theorem strict_ne {l : List Dot} (h : l.Pairwise fun a b => dless a b = true) {k : Nat} (hk : k < l.length) : ¬ (0 < k ∧ l.getD (k - 1) (0, 0) = l.getD k (0, 0)) := fun ⟨h0, e⟩ => by
  have := dm.pair_adj h h0 hk
  rw [e] at this
  exact dm.dless_irrefl _ this
set_option maxHeartbeats 8000000 in
set_option maxRecDepth 100000 in
theorem raise_any (c : dm.Ctx) (nd n : Int) (v : Value) (w : World) (h : CtxAt w w.heap.size v c) (h0 : 0 ≤ nd) (h1 : nd < 16) (hn0 : 0 ≤ n) (hn1 : n ≤ 1099511627776)
    (hv : ∀ d ∈ c.1, valid d = true) (hu : c.1.Pairwise fun a b => a.1 < b.1) (hcv : ∀ d ∈ c.2, valid d = true) (hcu : c.2.Pairwise fun a b => dless a b = true) (hc : ∀ d ∈ c.2, d.1 ≠ nd → dm.kn c.1 d.1 + 2 ≤ d.2)
    (hl1 : c.1.length ≤ 1000) (hl2 : c.2.length ≤ 300000) :
    Calls Try.prog 39 #[v, .int .i64 nd, .int .i64 n] w (LayC (dm.layF (dm.raiseK c.1 nd n) c.2) w) := by
  obtain ⟨a1, n1, c1, a2, n2, c2, rfl, hn1, hn2⟩ := h.form
  have HC := Lib.hid h
  have HN1 := Lib.hid hn1
  have HN2 := Lib.hid hn2
  have hf1 : n1 ≤ 9223372036854775807 := by
    obtain ⟨_, _, e, _, h9⟩ := h.parts.1.form
    rw [hn1]; unfold maxLen at h9; exact h9
  have hf2 : n2 ≤ 9223372036854775807 := by
    obtain ⟨_, _, e, _, h9⟩ := h.parts.2.form
    rw [hn2]; unfold maxLen at h9; exact h9
  clear h hn1 hn2
  have hb1 : n1 ≤ 1000 := by rw [HN1.out]; exact hl1
  have hb2 : n2 ≤ 300000 := by rw [HN2.out]; exact hl2
  have HVU := Lib.hid (And.intro hv (And.intro hu (And.intro hcv (And.intro hcu hc))))
  obtain ⟨K0, hK0⟩ : ∃ K, K = dm.raiseK c.1 nd n := ⟨_, rfl⟩
  have HK0 := Lib.hid hK0
  obtain ⟨kk, hkk⟩ : ∃ k, k = dm.kn c.1 nd := ⟨_, rfl⟩
  have HKK := Lib.hid hkk
  have hkb : 0 ≤ kk ∧ kk ≤ 1099511627776 := by
    rw [hkk]
    rcases dm.kn_cases c.1 nd with ⟨e, _⟩ | e
    · omega
    · have := (dm.valid_iff _).1 (hv _ e)
      simp only at this; omega
  have HKB : Hid (∀ m, 0 ≤ K0 m ∧ K0 m ≤ 1099511627776) := fun m => by
    rw [hK0]; unfold dm.raiseK
    by_cases e : m = nd
    · rw [if_pos e, ← hkk]; omega
    · rw [if_neg e]
      rcases dm.kn_cases c.1 m with ⟨e, _⟩ | e
      · omega
      · have := (dm.valid_iff _).1 (hv _ e)
        simp only at this; omega
  have HKO : Hid (∀ d ∈ c.2, d.1 ≠ nd → K0 d.1 + 2 ≤ d.2) := fun d hd hne => by rw [hK0]; unfold dm.raiseK; rw [if_neg hne]; exact hc d hd hne
  have HKN : Hid (K0 nd = max n kk) := by rw [hK0, hkk]; exact if_pos rfl
  obtain ⟨w1, hw1⟩ : ∃ W, W = (w.alloc (.cells #[.slice a1 n1 c1, .slice a2 n2 c2] 24)).alloc (.cells #[.slice none 0 0, .slice none 0 0] 24) := ⟨_, rfl⟩
  have E1 : Below w.heap.size w w1 := by rw [hw1]; exact ctx_below.trans (ctx_below.mono (by simp))
  have x0 : w1.cell? ⟨w.heap.size, 0, none⟩ = some (.slice a1 n1 c1) := by rw [hw1]; go_simp
  have x1 : w1.cell? ⟨w.heap.size, 1, none⟩ = some (.slice a2 n2 c2) := by rw [hw1]; go_simp
  have x2 : w1.cell? ⟨w.heap.size + 1, 0, none⟩ = some (.slice none 0 0) := by rw [hw1]; go_simp
  have x3 : w1.cell? ⟨w.heap.size + 1, 1, none⟩ = some (.slice none 0 0) := by rw [hw1]; go_simp
  have x4 : w1.frozen? ⟨w.heap.size + 1, 0, none⟩ = false := by rw [hw1]; go_simp
  have x5 : w1.frozen? ⟨w.heap.size + 1, 1, none⟩ = false := by rw [hw1]; go_simp
  have hs1 : w.heap.size + 2 ≤ w1.heap.size := by rw [hw1]; simp
  have HX : Hid (∀ W, Below w1.heap.size w1 W → W.cell? ⟨w.heap.size, 0, none⟩ = some (.slice a1 n1 c1) ∧ W.cell? ⟨w.heap.size, 1, none⟩ = some (.slice a2 n2 c2)) := fun W hW =>
    ⟨(hW.cell (p := ⟨w.heap.size, 0, none⟩) (by show w.heap.size < _; omega)).trans x0, (hW.cell (p := ⟨w.heap.size, 1, none⟩) (by show w.heap.size < _; omega)).trans x1⟩
  have HZ := Lib.hid (And.intro x2 (And.intro x3 (And.intro x4 x5)))
  have HW1 := Lib.hid hw1
  have HD1 : Hid (∀ W, Below w1.heap.size w1 W → Dots W W.heap.size (.slice a1 n1 c1) c.1) := fun W hW => (HC.out.next (E1.trans (hW.mono E1.size))).parts.1
  have HD2 : Hid (∀ W, Below w1.heap.size w1 W → Dots W W.heap.size (.slice a2 n2 c2) c.2) := fun W hW => (HC.out.next (E1.trans (hW.mono E1.size))).parts.2
  have HUP : Hid (∀ W, Below w1.heap.size w1 W → Calls Try.prog 33 #[.agg #[.slice a1 n1 c1, .slice a2 n2 c2], .int .i64 nd] W fun e w' => e = .returned (.int .i64 kk) ∧ Below W.heap.size W w') := fun W hW => by
    rw [hkk]; exact rupto_any c nd _ W (HC.out.next (E1.trans (hW.mono E1.size)))
  rw [hw1] at x0 x1
  clear hw1 hK0 hkk x2 x3 x4 x5 hv hu hcv hcu hc hl1 hl2
  rw [← HK0.out]
  go_enter Try.func39, Try.ntmps39
  go_wp2
  rw [← HW1.out]
  clear x0 x1
  go_loopw [7, 16, 28] (fun s i _ wr => ∃ (k : Nat) (so : Option Addr) (sn sc : Nat), i = .int .i64 k ∧ k ≤ n1 ∧ s = .slice so sn sc ∧ sn ≤ k ∧ Hid (sn = ((c.1.take k).filter (neN nd)).length) ∧ Hid (wr.ownsRow w1.heap.size 26 2 (.slice so sn sc) sn (dcells ((c.1.take k).filter (neN nd)))) ∧ Below w1.heap.size w1 wr) (fun _ i _ _ => n1 - (intOf i).toNat)
  case atStart => exact ⟨0, none, 0, 0, rfl, Nat.zero_le _, rfl, Nat.le_refl _, rfl, World.ownsRow_nil _ _ _ _, Below.refl _ _⟩
  case round =>
    rename World => wr
    obtain ⟨k, so, sn, sc, rfl, hk, rfl, hsn, HSN, HO, D⟩ := hrel
    by_cases hlt : k < n1
    · obtain ⟨b0, off, rfl, hB0, g0, g1⟩ := Dots.get (HD1.out _ D) HN1.out hlt
      have HKL : Hid (k < c.1.length) := by show k < _; rw [← HN1.out]; exact hlt
      have HFT := Lib.hid (dm.filter_take (p := fun d => decide (d.1 ≠ nd)) HKL.out)
      obtain ⟨⟨a, b⟩, hx⟩ : ∃ x, x = c.1.getD k (0, 0) := ⟨_, rfl⟩
      rw [← hx] at g0 g1 HFT
      simp only at g0 g1
      have hkI : (k : Int) < (n1 : Int) := by omega
      have D1 : Below w1.heap.size w1 (wr.alloc (.cells #[.int .i64 a, .int .i64 b] 26)) := D.trans (ctx_below.mono D.size)
      have HOA : Hid ((wr.alloc (.cells #[.int .i64 a, .int .i64 b] 26)).ownsRow w1.heap.size 26 2 (.slice so sn sc) sn (dcells ((c.1.take k).filter (neN nd)))) := own_stay HO.out ctx_below
      have hz1 : w1.heap.size ≤ (wr.alloc (.cells #[.int .i64 a, .int .i64 b] 26)).heap.size := D1.size
      clear hx
      by_cases ha : a = nd
      · subst ha
        have HF2 : Hid ((c.1.take (k + 1)).filter (neN a) = (c.1.take k).filter (neN a)) := by have := HFT.out; rw [if_neg (by simp), List.append_nil] at this; exact this
        have HO2 : Hid ((wr.alloc (.cells #[.int .i64 a, .int .i64 b] 26)).ownsRow w1.heap.size 26 2 (.slice so sn sc) sn (dcells ((c.1.take (k + 1)).filter (neN a)))) := by show World.ownsRow _ _ _ _ _ _ _; rw [HF2.out]; exact HOA.out
        have HS2 : Hid (sn = ((c.1.take (k + 1)).filter (neN a)).length) := by show _ = _; rw [HF2.out]; exact HSN.out
        clear HFT
        go_wp2
        go_roundw
        case rel => exact ⟨k + 1, _, _, _, by go_num, by omega, rfl, by omega, HS2, HO2, D1⟩
        case measure => simp [intOf]; omega
      · have hd : (a == nd) = false := by simpa using ha
        have hd2 : (a != nd) = true := by simpa using ha
        have HF2 : Hid ((c.1.take (k + 1)).filter (neN nd) = (c.1.take k).filter (neN nd) ++ [(a, b)]) := by have := HFT.out; rw [if_pos (by simpa [neN] using ha)] at this; exact this
        clear HFT
        go_wp2_with (at_builtin; refine app1s (.tmp 24) (.tmp 26) 22 rfl rfl w1.heap.size Try.underlying22 infoDot rfl (by decide) (by decide) HOA.out rfl rfl (World.size_alloc _ _).symm rfl (by intro u hu; simp at hu; rcases hu with rfl | rfl <;> rfl) (by omega) hz1 ?_)
        intro v5 w5 hown5 hb5
        obtain ⟨o5, k5, rfl⟩ := own_form hown5
        have HO5 : Hid (w5.ownsRow w1.heap.size 26 2 (.slice o5 (sn + 1) k5) (sn + 1) (dcells ((c.1.take (k + 1)).filter (neN nd)))) := by
          show World.ownsRow _ _ _ _ _ _ _
          rw [HF2.out, dcells_app]
          exact hown5
        have HS5 : Hid (sn + 1 = ((c.1.take (k + 1)).filter (neN nd)).length) := by show _ = _; rw [HF2.out, List.length_append, ← HSN.out]; rfl
        have D5 := D1.trans hb5
        clear hown5 hb5
        go_wp2
        go_roundw
        case rel => exact ⟨k + 1, _, _, _, by go_num, by omega, rfl, by omega, HS5, HO5, D5⟩
        case measure => simp [intOf]; omega
    · obtain rfl : n1 = k := by omega
      have hall : c.1.take n1 = c.1 := List.take_of_length_le (by rw [HN1.out]; exact Nat.le_refl _)
      rw [hall] at HSN HO
      obtain ⟨x0, x1⟩ := HX.out _ D
      have HU1 := Lib.hid (HUP.out _ D)
      clear hall
      go_wp2_with fail
      (with_reducible refine HU1.out.mono ?_)
      rintro e w2 ⟨rfl, b2⟩
      have D2 := D.trans (b2.mono D.size)
      have HOV := Lib.hid (own_stay HO.out b2)
      have HLT : Hid (∀ g, (Value.slice so sn sc).ownBlock = some g → g < w2.heap.size) := fun g hg => (HOV.out.lt g hg).2
      have D3 : Below w2.heap.size w2 w2 := Below.refl _ _
      have hmx : max n kk = K0 nd := HKN.out.symm
      clear b2 HO D x0 x1 HU1
      obtain ⟨x0, x1⟩ := HX.out _ D2
      go_wp2
      clear x0 x1
      go_loopw [2, 8, 37, 70] (fun m s i _ wr => ∃ (k : Nat) (K : Int → Int) (cl : List Dot) (to : Option Addr) (tc : Nat), m = .int .i64 (K nd) ∧ i = .int .i64 k ∧ k ≤ n2 ∧ s = .slice to cl.length tc ∧ Hid (dm.RunIs K0 (c.2.take k) K cl) ∧ Hid (∀ m, m ≠ nd → K m = K0 m) ∧ Hid (wr.ownsRow w2.heap.size 26 2 (.slice to cl.length tc) cl.length (dcells cl)) ∧ Below w2.heap.size w2 wr) (fun _ _ i _ _ => n2 - (intOf i).toNat)
      case atStart => exact ⟨0, K0, [], none, 0, by first | rfl | rw [hmx], rfl, Nat.zero_le _, rfl, ⟨rfl, rfl⟩, fun _ _ => rfl, World.ownsRow_nil _ _ _ _, D3⟩
      case round =>
        clear D3 hk hmx
        rename World => wr
        obtain ⟨k, K, cl, to, tc, rfl, rfl, hk, rfl, HR, HKE, HOC, D3⟩ := hrel
        have D4 : Below w1.heap.size w1 wr := D2.trans (D3.mono D2.size)
        have HBD := Lib.hid (dm.runis_bd HR.out HKB.out (strict_up HVU.out.2.2.2.1) HVU.out.2.2.1 (by rw [← HN2.out]; exact hk))
        have hKb := HBD.out.1 nd
        have hcl := HBD.out.2
        by_cases hlt : k < n2
        · obtain ⟨b0, off, rfl, hB0, g0, g1⟩ := Dots.get (HD2.out _ D4) HN2.out hlt
          have HKL : Hid (k < c.2.length) := by show k < _; rw [← HN2.out]; exact hlt
          have HNE := Lib.hid (strict_ne HVU.out.2.2.2.1 HKL.out)
          have HRS := Lib.hid (dm.runis_same HR.out HKL.out)
          have HRU := Lib.hid (dm.runis_up HR.out HKL.out)
          have HRP := Lib.hid (dm.runis_put HR.out HKL.out)
          have HOT : Hid ((c.2.getD k (0, 0)).1 ≠ nd → K (c.2.getD k (0, 0)).1 + 2 ≤ (c.2.getD k (0, 0)).2) := fun hne => by rw [HKE.out _ hne]; exact HKO.out _ (dm.getD_mem HKL.out) hne
          have hvd := (dm.valid_iff _).1 (HVU.out.2.2.1 _ (dm.getD_mem HKL.out))
          obtain ⟨⟨a, b⟩, hx⟩ : ∃ x, x = c.2.getD k (0, 0) := ⟨_, rfl⟩
          rw [← hx] at g0 g1 HRS HRU HRP HOT HNE hvd
          simp only at g0 g1 hvd
          have HRS' : Hid (b ≤ K a → dm.RunIs K0 (c.2.take (k + 1)) K cl) := fun e => HRS.out (Or.inr e)
          have HRU' : Hid (¬ b ≤ K a → b = K a + 1 → dm.RunIs K0 (c.2.take (k + 1)) (dm.put1 K (a, K a + 1)) cl) := fun e1 e2 => HRU.out (fun e => e.elim HNE.out e1) e2
          have HRP' : Hid (¬ b ≤ K a → ¬ b = K a + 1 → dm.RunIs K0 (c.2.take (k + 1)) K (cl ++ [(a, b)])) := fun e1 e2 => HRP.out (fun e => e.elim HNE.out e1) e2
          have HOT' : Hid (a ≠ nd → K a + 2 ≤ b) := HOT.out
          have hkI : (k : Int) < (n2 : Int) := by omega
          have D5 : Below w2.heap.size w2 (wr.alloc (.cells #[.int .i64 a, .int .i64 b] 26)) := D3.trans (ctx_below.mono D3.size)
          have HOA : Hid ((wr.alloc (.cells #[.int .i64 a, .int .i64 b] 26)).ownsRow w2.heap.size 26 2 (.slice to cl.length tc) cl.length (dcells cl)) := own_stay HOC.out ctx_below
          have hz2 : w2.heap.size ≤ (wr.alloc (.cells #[.int .i64 a, .int .i64 b] 26)).heap.size := D5.size
          obtain ⟨q, hq⟩ : ∃ q, q = K nd := ⟨_, rfl⟩
          have HQ := Lib.hid hq
          rw [← hq] at hKb ⊢
          have hq1 : IntKind.i64.wrap (q + 1) = q + 1 := IntWalk.i64_in _ (by omega)
          clear hx HRS HRU HRP HOT hq HBD
          by_cases ha : a = nd
          · by_cases hb : b = q + 1
            · have HR2 := Lib.hid (HRU'.out (by rw [ha, ← HQ.out]; omega) (by rw [ha, ← HQ.out]; exact hb))
              have HKE2 : Hid (∀ m, m ≠ nd → dm.put1 K (a, K a + 1) m = K0 m) := fun m hm => by unfold dm.put1; rw [if_neg (by rw [ha]; exact hm)]; exact HKE.out m hm
              have HK2 : Hid (q + 1 = dm.put1 K (a, K a + 1) nd) := by show _ = _; unfold dm.put1; rw [if_pos ha.symm, ha, HQ.out]
              have hd : (a == nd) = true := by simpa using ha
              have hd2 : (b == q + 1) = true := by simpa using hb
              clear ha hb
              go_wp2
              go_roundw
              case rel => exact ⟨k + 1, _, cl, _, _, by rw [HK2.out], by go_num, by omega, rfl, HR2, HKE2, HOA, D5⟩
              case measure => simp [intOf]; omega
            · have hd : (a == nd) = true := by simpa using ha
              have hd2 : (b == q + 1) = false := by simpa using hb
              have hd3 : (a != nd) = false := by simpa using ha
              by_cases hgt : q < b
              · have HR2 := Lib.hid (HRP'.out (by rw [ha, ← HQ.out]; omega) (by rw [ha, ← HQ.out]; exact hb))
                have hd4 : decide (q < b) = true := decide_eq_true hgt
                clear ha hb
                go_wp2_with (at_builtin; refine app1s (.tmp 66) (.tmp 68) 22 rfl rfl w2.heap.size Try.underlying22 infoDot rfl (by decide) (by decide) HOA.out rfl rfl (World.size_alloc _ _).symm rfl (by intro u hu; simp at hu; rcases hu with rfl | rfl <;> rfl) (by omega) hz2 ?_)
                intro v5 w5 hown5 hb5
                obtain ⟨o5, k5, rfl⟩ := own_form hown5
                have HO5 : Hid (w5.ownsRow w2.heap.size 26 2 (.slice o5 (cl ++ [(a, b)]).length k5) (cl ++ [(a, b)]).length (dcells (cl ++ [(a, b)]))) := by
                  show World.ownsRow _ _ _ _ _ _ _
                  rw [List.length_append, dcells_app]
                  exact hown5
                have D6 := D5.trans hb5
                clear hown5 hb5
                go_wp2
                go_roundw
                case rel => exact ⟨k + 1, K, cl ++ [(a, b)], _, _, by rw [HQ.out], by go_num, by omega, by rw [List.length_append]; rfl, HR2, HKE, HO5, D6⟩
                case measure => simp [intOf]; omega
              · have HR2 := Lib.hid (HRS'.out (by rw [ha, ← HQ.out]; omega))
                have hd4 : decide (q < b) = false := decide_eq_false hgt
                clear ha hb
                go_wp2
                go_roundw
                case rel => exact ⟨k + 1, _, cl, _, _, by rw [HQ.out], by go_num, by omega, rfl, HR2, HKE, HOA, D5⟩
                case measure => simp [intOf]; omega
          · have h2 := HOT'.out ha
            have HR2 := Lib.hid (HRP'.out (by omega) (by omega))
            have hd : (a == nd) = false := by simpa using ha
            have hd3 : (a != nd) = true := by simpa using ha
            clear h2
            go_wp2_with (at_builtin; refine app1s (.tmp 66) (.tmp 68) 22 rfl rfl w2.heap.size Try.underlying22 infoDot rfl (by decide) (by decide) HOA.out rfl rfl (World.size_alloc _ _).symm rfl (by intro u hu; simp at hu; rcases hu with rfl | rfl <;> rfl) (by omega) hz2 ?_)
            intro v5 w5 hown5 hb5
            obtain ⟨o5, k5, rfl⟩ := own_form hown5
            have HO5 : Hid (w5.ownsRow w2.heap.size 26 2 (.slice o5 (cl ++ [(a, b)]).length k5) (cl ++ [(a, b)]).length (dcells (cl ++ [(a, b)]))) := by
              show World.ownsRow _ _ _ _ _ _ _
              rw [List.length_append, dcells_app]
              exact hown5
            have D6 := D5.trans hb5
            clear hown5 hb5
            go_wp2
            go_roundw
            case rel => exact ⟨k + 1, K, cl ++ [(a, b)], _, _, by rw [HQ.out], by go_num, by omega, by rw [List.length_append]; rfl, HR2, HKE, HO5, D6⟩
            case measure => simp [intOf]; omega
        · obtain rfl : n2 = k := by omega
          have hall : c.2.take n2 = c.2 := List.take_of_length_le (by rw [HN2.out]; exact Nat.le_refl _)
          rw [hall] at HR
          have HVEC : Hid (∀ V : List Dot, V.Pairwise (fun a b => dless a b = true) → (∀ d, d ∈ V ↔ (d ∈ c.1 ∧ d.1 ≠ nd) ∨ (d = (nd, K nd) ∧ 0 < K nd)) → (V, cl) = dm.layF K0 c.2) := fun V h1' h2' => by
            have e := dm.raise_vec (node := nd) (n := n) HVU.out.1 HVU.out.2.1 h0 h1 HVU.out.2.2.2.2 h1' (fun d => by rw [h2', ← HK0.out, HR.out.1])
            rw [← HK0.out] at e
            unfold dm.layF
            rw [← e, HR.out.2]
          have HFM : Hid (∀ d, d ∈ c.1.filter (neN nd) ↔ d ∈ c.1 ∧ d.1 ≠ nd) := fun d => by simp [List.mem_filter, neN]
          have HFS : Hid ((c.1.filter (neN nd)).Pairwise (fun a b => dless a b = true)) := (dm.pair_lt_dless HVU.out.2.1).sublist List.filter_sublist
          have HOV3 := Lib.hid (own_keep HOV.out HLT.out D3)
          have y0 := (D4.cell (p := ⟨w.heap.size + 1, 0, none⟩) (by show w.heap.size + 1 < _; omega)).trans HZ.out.1
          have y1 := (D4.cell (p := ⟨w.heap.size + 1, 1, none⟩) (by show w.heap.size + 1 < _; omega)).trans HZ.out.2.1
          have y2 := (D4.frozen (p := ⟨w.heap.size + 1, 0, none⟩) (by show w.heap.size + 1 < _; omega)).trans HZ.out.2.2.1
          have y3 := (D4.frozen (p := ⟨w.heap.size + 1, 1, none⟩) (by show w.heap.size + 1 < _; omega)).trans HZ.out.2.2.2
          obtain ⟨q, hq⟩ : ∃ q, q = K nd := ⟨_, rfl⟩
          rw [← hq] at HVEC hKb ⊢
          clear hq hall
          by_cases hpos : 0 < q
          · have hd : decide (0 < q) = true := decide_eq_true hpos
            have HPU := Lib.hid (put_any (c.1.filter (neN nd)) nd q (.slice so sn sc) wr (by
              show Cells _ _ _ _ _ _
              rw [← HSN.out]
              exact Cells.own HOV3.out) HFS.out (by rw [← HSN.out]; omega))
            have HY := Lib.hid (And.intro y0 (And.intro y1 (And.intro y2 y3)))
            clear y0 y1 y2 y3
            go_wp2_with fail
            (with_reducible refine HPU.out.mono ?_)
            rintro e w6 ⟨v6, V, rfl, hdv, hps, hpm, hpl, b6⟩
            have HVE := Lib.hid (HVEC.out V hps (fun d => by rw [hpm, HFM.out]; simp [hpos]))
            have hOV : w6.ownsRow w1.heap.size 26 2 v6 V.length (dcells V) := by
              rcases hdv with ⟨e1, e2⟩ | e
              · rw [e1, e2, ← HSN.out]; exact own_stay HOV3.out b6
              · exact own_mono e D4.size
            have D6 : Below w1.heap.size w1 w6 := D4.trans (b6.mono D4.size)
            have hOC : w6.ownsRow w1.heap.size 26 2 (.slice to cl.length tc) cl.length (dcells cl) := own_mono (own_stay HOC.out b6) D2.size
            obtain ⟨vo, vc, rfl⟩ := own_form hOV
            have y0 := (D6.cell (p := ⟨w.heap.size + 1, 0, none⟩) (by show w.heap.size + 1 < _; omega)).trans HZ.out.1
            have y1 := (D6.cell (p := ⟨w.heap.size + 1, 1, none⟩) (by show w.heap.size + 1 < _; omega)).trans HZ.out.2.1
            have y2 := (D6.frozen (p := ⟨w.heap.size + 1, 0, none⟩) (by show w.heap.size + 1 < _; omega)).trans HZ.out.2.2.1
            have y3 := (D6.frozen (p := ⟨w.heap.size + 1, 1, none⟩) (by show w.heap.size + 1 < _; omega)).trans HZ.out.2.2.2
            have hown : OwnC w1.heap.size w6 (.agg #[.slice vo V.length vc, .slice to cl.length tc]) (V, cl) := ⟨vo, vc, to, tc, rfl, hOV, hOC⟩
            have HOW := Lib.hid (((hown.set (a := ⟨w.heap.size + 1, 0, none⟩) (by show w.heap.size + 1 < _; omega) (.slice vo V.length vc)).set (a := ⟨w.heap.size + 1, 1, none⟩) (by show w.heap.size + 1 < _; omega) (.slice to cl.length tc)).mono E1.size)
            have hb9 := E1.trans (D6.mono E1.size)
            have HB9 := Lib.hid ((hb9.setCell (p := ⟨w.heap.size + 1, 0, none⟩) (by show w.heap.size ≤ w.heap.size + 1; omega) (.slice vo V.length vc)).setCell (p := ⟨w.heap.size + 1, 1, none⟩) (by show w.heap.size ≤ w.heap.size + 1; omega) (.slice to cl.length tc))
            obtain ⟨vn, hvn⟩ : ∃ x, x = V.length := ⟨_, rfl⟩
            obtain ⟨cn, hcn⟩ : ∃ x, x = cl.length := ⟨_, rfl⟩
            rw [← hvn, ← hcn] at HOW HB9
            rw [← hvn, ← hcn]
            clear hown hOV hOC hb9 hvn hcn
            go_wp2
            refine bodyPost_ret (v := .agg #[.slice vo vn vc, .slice to cn tc]) (by simp [results, Try.results39, go_sem, y0, y1]) rfl ?_
            exact ⟨_, rfl, by rw [← HVE.out]; exact HOW.out, HB9.out⟩
          · have hd : decide (0 < q) = false := decide_eq_false hpos
            have HVE := Lib.hid (HVEC.out (c.1.filter (neN nd)) HFS.out (fun d => by rw [HFM.out]; simp [hpos]))
            have hOV : wr.ownsRow w1.heap.size 26 2 (.slice so sn sc) sn (dcells (c.1.filter (neN nd))) := HOV3.out
            have D6 := D4
            have hOC : wr.ownsRow w1.heap.size 26 2 (.slice to cl.length tc) cl.length (dcells cl) := own_mono HOC.out D2.size
            clear y0 y1 y2 y3
            have y0 := (D6.cell (p := ⟨w.heap.size + 1, 0, none⟩) (by show w.heap.size + 1 < _; omega)).trans HZ.out.1
            have y1 := (D6.cell (p := ⟨w.heap.size + 1, 1, none⟩) (by show w.heap.size + 1 < _; omega)).trans HZ.out.2.1
            have y2 := (D6.frozen (p := ⟨w.heap.size + 1, 0, none⟩) (by show w.heap.size + 1 < _; omega)).trans HZ.out.2.2.1
            have y3 := (D6.frozen (p := ⟨w.heap.size + 1, 1, none⟩) (by show w.heap.size + 1 < _; omega)).trans HZ.out.2.2.2
            have hown : OwnC w1.heap.size wr (.agg #[.slice so sn sc, .slice to cl.length tc]) (c.1.filter (neN nd), cl) := ⟨so, sc, to, tc, by rw [← HSN.out], by rw [← HSN.out]; exact hOV, hOC⟩
            have HOW := Lib.hid (((hown.set (a := ⟨w.heap.size + 1, 0, none⟩) (by show w.heap.size + 1 < _; omega) (.slice so sn sc)).set (a := ⟨w.heap.size + 1, 1, none⟩) (by show w.heap.size + 1 < _; omega) (.slice to cl.length tc)).mono E1.size)
            have hb9 := E1.trans (D6.mono E1.size)
            have HB9 := Lib.hid ((hb9.setCell (p := ⟨w.heap.size + 1, 0, none⟩) (by show w.heap.size ≤ w.heap.size + 1; omega) (.slice so sn sc)).setCell (p := ⟨w.heap.size + 1, 1, none⟩) (by show w.heap.size ≤ w.heap.size + 1; omega) (.slice to cl.length tc))
            obtain ⟨vn, hvn⟩ : ∃ x, x = sn := ⟨_, rfl⟩
            obtain ⟨cn, hcn⟩ : ∃ x, x = cl.length := ⟨_, rfl⟩
            rw [← hvn, ← hcn] at HOW HB9
            rw [← hvn, ← hcn]
            clear hown hOV hOC hb9 hvn hcn
            go_wp2
            refine bodyPost_ret (v := .agg #[.slice so vn sc, .slice to cn tc]) (by simp [results, Try.results39, go_sem, y0, y1]) rfl ?_
            exact ⟨_, rfl, by rw [← HVE.out]; exact HOW.out, HB9.out⟩
end Go.Proofs.Ytdcmoeklldkccaa
