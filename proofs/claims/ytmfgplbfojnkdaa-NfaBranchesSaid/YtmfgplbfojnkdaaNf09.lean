/- texts put together: NfBld, NfEdg, RfMath, RfLem. -/
import Derived.Test.YtmfgplbfojnkdaaNf00
import Derived.Test.YtmfgplbfojnkdaaNf06
import Derived.Test.YtmfgplbfojnkdaaNf08
namespace Go.Proofs.Ytmfgplbfojnkdaa
open Go Go.RowKit Go.ChangeShapes cl rx
def nf.code (e : Nat) (x : Pat) : Int := if okF 48 x = false then 1 else if (nf.of e x ⟨0, []⟩).full then 10 else 0
def nf.made (e : Nat) (x : Pat) : nf.Bd := if nf.code e x = 0 then nf.of e x ⟨0, []⟩ else ⟨0, []⟩
def BldP (e : Nat) (x : Pat) (w : World) (en : Ending) (w' : World) : Prop := ∃ (sl : Value), en = .returned (.tuple #[.agg #[.int .i64 (nf.made e x).sz, .int .i64 0, .int .i64 (if nf.code e x = 0 then 1 else 0), sl], .int .i64 (nf.code e x)]) ∧ w'.ownsRow w.heap.size 42 7 sl (nf.made e x).es.length (ecells (nf.made e x).es) ∧ Below w.heap.size w w'
theorem set4n {w : World} {g : Nat} {a b c d a' b' c' d' : Value} {T : TypeId} (h : w.heap[g]? = some (.cells #[a, b, c, d] T (0, 0))) : ((((w.setCell ⟨g, 0, none⟩ a').setCell ⟨g, 1, none⟩ b').setCell ⟨g, 2, none⟩ c').setCell ⟨g, 3, none⟩ d').heap[g]? = some (.cells #[a', b', c', d'] T (0, 0)) :=
 heap_setCell_same _ g 3 _ _ _ (heap_setCell_same _ g 2 _ _ _ (heap_setCell_same _ g 1 _ _ _ (heap_setCell_same w g 0 _ _ _ h)))
theorem set4_below {B g : Nat} {w w0 : World} {a b c d : Value} (hB : B ≤ g) (h : Below B w0 w) : Below B w0 ((((w.setCell ⟨g, 0, none⟩ a).setCell ⟨g, 1, none⟩ b).setCell ⟨g, 2, none⟩ c).setCell ⟨g, 3, none⟩ d) :=
 (((h.trans (below_set.mono hB)).trans (below_set.mono hB)).trans (below_set.mono hB)).trans (below_set.mono hB)
theorem own_monoB {w : World} {B B' : Nat} {e : TypeId} {k : Nat} {v : Value} {n : Nat} {xs : List Value} (h : w.ownsRow B e k v n xs) (hB : B' ≤ B) : w.ownsRow B' e k v n xs := by
 obtain ⟨h1, h2⟩ := h
 refine ⟨h1, ?_⟩
 rcases h2 with h2 | ⟨g, c, cur, e, hb, r⟩
 ·
  exact Or.inl h2
 ·
  exact Or.inr ⟨g, c, cur, e, Nat.le_trans hB hb, r⟩
set_option maxHeartbeats 6400000 in
set_option maxRecDepth 100000 in
theorem nf_build (e : Nat) (x : Pat) (c : List Value) (w : World) (hx : rxR e w w.heap.size c x) : Calls Try.prog 10 #[.agg c.toArray] w (BldP e x w) := by
 obtain ⟨ko, kn, kc, rfl⟩ := rx_form hx
 obtain ⟨P, hP⟩ : ∃ P, P = w.heap.size := ⟨_, rfl⟩
 obtain ⟨w1, hw1⟩ : ∃ W, W = (w.alloc (.cells #[.int .i64 x.k, .int .u64 x.cl.a, .int .u64 x.cl.b, .int .u64 x.cl.c, .int .u64 x.cl.d, .slice ko kn kc, .int .i64 x.mn, .int .i64 x.mx] 27)).alloc (.cells #[.int .i64 0, .int .i64 0, .int .i64 0, .slice none 0 0] 32) := ⟨_, rfl⟩
 have b1 : Below w.heap.size w w1 := by rw [hw1]; exact below1.alloc (by simp) _
 have x1 : w1.heap[P]? = some (.cells #[.int .i64 x.k, .int .u64 x.cl.a, .int .u64 x.cl.b, .int .u64 x.cl.c, .int .u64 x.cl.d, .slice ko kn kc, .int .i64 x.mn, .int .i64 x.mx] 27 (0, 0)) := by
  rw [hw1, below1.block P (by rw [hP]; simp), hP]; exact heap_alloc_new w _
 have y1 : w1.heap[P + 1]? = some (.cells #[.int .i64 0, .int .i64 0, .int .i64 0, .slice none 0 0] 32 (0, 0)) := by
  have := heap_alloc_new (w.alloc (.cells #[.int .i64 x.k, .int .u64 x.cl.a, .int .u64 x.cl.b, .int .u64 x.cl.c, .int .u64 x.cl.d, .slice ko kn kc, .int .i64 x.mn, .int .i64 x.mx] 27)) (.cells #[.int .i64 0, .int .i64 0, .int .i64 0, .slice none 0 0] 32)
  rw [World.size_alloc] at this
  rw [hw1, hP]; exact this
 have HRT := Lib.hid (rx_right_any e x _ w1 (rxR_steady e _ _ _ _ _ _ hx b1 b1.size))
 have HX := Lib.hid hx
 have HB1 := Lib.hid b1
 have HX1 := Lib.hid x1
 have HY1 := Lib.hid y1
 have HW1 := Lib.hid hw1
 have HP := Lib.hid hP
 have k0 := boxc x1 0 _ rfl
 have k1 := boxc x1 1 _ rfl
 have k2 := boxc x1 2 _ rfl
 have k3 := boxc x1 3 _ rfl
 have k4 := boxc x1 4 _ rfl
 have k5 := boxc x1 5 _ rfl
 have k6 := boxc x1 6 _ rfl
 have k7 := boxc x1 7 _ rfl
 clear hx b1 x1 y1 hw1 hP
 cases hok : okF 48 x
 ·
  rw [hok] at HRT
  have HC : Hid (nf.code e x = 1) := by show _ = _; unfold nf.code; rw [if_pos hok]
  have HM : Hid (nf.made e x = ⟨0, []⟩) := by show _ = _; unfold nf.made; rw [HC.out]; rfl
  clear hok
  go_enter Try.func10, Try.ntmps10
  go_wp2_with fail
  rw [← HW1.out, ← HP.out]
  (with_reducible refine HRT.out.mono ?_)
  rintro en w2 ⟨rfl, hb2⟩
  have y2 := (hb2.block _ (lt_of_block HY1.out)).trans HY1.out
  have HB2 := Lib.hid (HB1.out.trans (hb2.mono HB1.out.size))
  have c0 := boxc y2 0 _ rfl
  have c1 := boxc y2 1 _ rfl
  have c2 := boxc y2 2 _ rfl
  have c3 := boxc y2 3 _ rfl
  have f0 := boxf y2 0
  have f1 := boxf y2 1
  have f2 := boxf y2 2
  have f3 := boxf y2 3
  have HY2 := Lib.hid y2
  clear y2 hb2
  have x9 : ((((w2.setCell ⟨P + 1, 0, none⟩ (.int .i64 0)).setCell ⟨P + 1, 1, none⟩ (.int .i64 0)).setCell ⟨P + 1, 2, none⟩ (.int .i64 0)).setCell ⟨P + 1, 3, none⟩ (.slice none 0 0)).heap[P + 1]? = some (.cells #[.int .i64 0, .int .i64 0, .int .i64 0, .slice none 0 0] 32 (0, 0)) := set4n HY2.out
  have e0 := boxc x9 0 _ rfl
  have e1 := boxc x9 1 _ rfl
  have e2 := boxc x9 2 _ rfl
  have e3 := boxc x9 3 _ rfl
  have HEND : Hid (BldP e x w (.returned (.tuple #[.agg #[.int .i64 0, .int .i64 0, .int .i64 0, .slice none 0 0], .int .i64 1])) ((((w2.setCell ⟨P + 1, 0, none⟩ (.int .i64 0)).setCell ⟨P + 1, 1, none⟩ (.int .i64 0)).setCell ⟨P + 1, 2, none⟩ (.int .i64 0)).setCell ⟨P + 1, 3, none⟩ (.slice none 0 0))) := by
   refine ⟨.slice none 0 0, ?_, ?_, set4_below (by have := HP.out; omega) HB2.out⟩
   ·
    rw [HM.out, HC.out]; rfl
   ·
    rw [HM.out]; exact World.ownsRow_nil _ _ _ _
  clear x9
  go_wp2
  refine bodyPost_ret (v := .tuple #[.agg #[.int .i64 0, .int .i64 0, .int .i64 0, .slice none 0 0], .int .i64 1]) ?_ rfl HEND.out
  simp only [results, Try.results10]
  go_simp
 ·
  rw [hok] at HRT
  have HOK := Lib.hid hok
  obtain ⟨b, hb⟩ : ∃ b, b = nf.of e x ⟨0, []⟩ := ⟨_, rfl⟩
  have HBB := Lib.hid hb
  have HLY : Hid (nf.Lay ⟨0, []⟩ b) := by show nf.Lay _ _; rw [hb]; exact nf.of_lay e x ⟨0, []⟩ (by show 0 ≤ 400; omega)
  clear hok hb
  go_enter Try.func10, Try.ntmps10
  go_wp2_with fail
  rw [← HW1.out, ← HP.out]
  (with_reducible refine HRT.out.mono ?_)
  rintro en w2 ⟨rfl, hb2⟩
  obtain ⟨q, hq⟩ : ∃ q, q = w2.heap.size := ⟨_, rfl⟩
  obtain ⟨w3, hw3⟩ : ∃ W, W = w2.alloc (.cells #[.int .i64 0, .slice none 0 0] 48) := ⟨_, rfl⟩
  have b3 : Below w2.heap.size w2 w3 := by rw [hw3]; exact below1
  have q3 : w3.heap[q]? = some (.cells #[.int .i64 0, .slice none 0 0] 48 (0, 0)) := by rw [hw3, hq]; exact heap_alloc_new w2 _
  have HB2 := Lib.hid (HB1.out.trans (hb2.mono HB1.out.size))
  have HB3 := Lib.hid (HB2.out.trans (b3.mono HB2.out.size))
  have HX3 := Lib.hid (((hb2.trans (b3.mono hb2.size)).block _ (lt_of_block HX1.out)).trans HX1.out)
  have HY3 := Lib.hid (((hb2.trans (b3.mono hb2.size)).block _ (lt_of_block HY1.out)).trans HY1.out)
  have HPQ : Hid (P + 1 < q ∧ w.heap.size ≤ q) := ⟨by rw [hq]; exact Nat.lt_of_lt_of_le (lt_of_block HY1.out) hb2.size, by rw [hq]; exact HB2.out.size⟩
  have HBD3 : Hid (BdAt q ⟨0, []⟩ w3) := ⟨_, q3, World.ownsRow_nil _ _ _ _⟩
  have HOF : Hid (Calls Try.prog 22 #[.pointer (some ⟨q, 0, none⟩), .agg #[.int .i64 x.k, .int .u64 x.cl.a, .int .u64 x.cl.b, .int .u64 x.cl.c, .int .u64 x.cl.d, .slice ko kn kc, .int .i64 x.mn, .int .i64 x.mx]] w3 fun en w' => en = .returned (.tuple #[.int .i64 0, .int .i64 1]) ∧ BdAt q b w' ∧ NK q w3 w') := by
   have := nf_of e 48 q x _ ⟨0, []⟩ w3 (rxR_steady e _ _ _ _ _ _ HX.out HB3.out HPQ.out.2) HOK.out HBD3.out (by show 0 ≤ 400; omega) (by show 0 ≤ 0; omega)
   rw [← HBB.out] at this
   exact this
  have HW3 := Lib.hid hw3
  have HQ := Lib.hid hq
  have m0 := boxc HX3.out 0 _ rfl
  have m1 := boxc HX3.out 1 _ rfl
  have m2 := boxc HX3.out 2 _ rfl
  have m3 := boxc HX3.out 3 _ rfl
  have m4 := boxc HX3.out 4 _ rfl
  have m5 := boxc HX3.out 5 _ rfl
  have m6 := boxc HX3.out 6 _ rfl
  have m7 := boxc HX3.out 7 _ rfl
  rw [hw3] at m0 m1 m2 m3 m4 m5 m6 m7
  clear b3 q3 hb2 hw3 hq k0 k1 k2 k3 k4 k5 k6 k7
  go_wp2_with fail
  rw [← HW3.out, ← HQ.out]
  clear m0 m1 m2 m3 m4 m5 m6 m7
  (with_reducible refine HOF.out.mono ?_)
  rintro en w4 ⟨rfl, hbd4, hnk4⟩
  have HBD4 := Lib.hid hbd4
  have HNK4 := Lib.hid hnk4
  have HF := Lib.hid (nf_full q b w4 hbd4)
  have HY4 := Lib.hid (hnk4.box HY3.out (by have := HPQ.out.1; omega) (by decide))
  have HB4 := Lib.hid (HB3.out.trans (hnk4.below.mono HPQ.out.2))
  clear hbd4 hnk4
  go_wp2_with fail
  (with_reducible refine HF.out.mono ?_)
  rintro en wF ⟨rfl, rfl⟩
  have c0 := boxc HY4.out 0 _ rfl
  have c1 := boxc HY4.out 1 _ rfl
  have c2 := boxc HY4.out 2 _ rfl
  have c3 := boxc HY4.out 3 _ rfl
  have f0 := boxf HY4.out 0
  have f1 := boxf HY4.out 1
  have f2 := boxf HY4.out 2
  have f3 := boxf HY4.out 3
  cases hfu : b.full
  ·
   obtain ⟨v4, hq4, ho4⟩ := HBD4.out.box
   obtain ⟨vo, vn, vc, rfl⟩ : ∃ vo vn vc, v4 = .slice vo vn vc := by
    rcases ho4.2 with ⟨rfl, _⟩ | ⟨g, c, cur, rfl, _⟩
    ·
     exact ⟨_, _, _, rfl⟩
    ·
     exact ⟨_, _, _, rfl⟩
   have d0 := boxc hq4 0 _ rfl
   have d1 := boxc hq4 1 _ rfl
   have HC : Hid (nf.code e x = 0) := by show _ = _; unfold nf.code; rw [if_neg (by rw [HOK.out]; decide), ← HBB.out, if_neg (by rw [hfu]; decide)]
   have HM : Hid (nf.made e x = b) := by show _ = _; unfold nf.made; rw [if_pos HC.out, ← HBB.out]
   have x9 : ((((wF.setCell ⟨P + 1, 0, none⟩ (.int .i64 b.sz)).setCell ⟨P + 1, 1, none⟩ (.int .i64 0)).setCell ⟨P + 1, 2, none⟩ (.int .i64 1)).setCell ⟨P + 1, 3, none⟩ (.slice vo vn vc)).heap[P + 1]? = some (.cells #[.int .i64 b.sz, .int .i64 0, .int .i64 1, .slice vo vn vc] 32 (0, 0)) := set4n HY4.out
   have e0 := boxc x9 0 _ rfl
   have e1 := boxc x9 1 _ rfl
   have e2 := boxc x9 2 _ rfl
   have e3 := boxc x9 3 _ rfl
   have HEND : Hid (BldP e x w (.returned (.tuple #[.agg #[.int .i64 b.sz, .int .i64 0, .int .i64 1, .slice vo vn vc], .int .i64 0])) ((((wF.setCell ⟨P + 1, 0, none⟩ (.int .i64 b.sz)).setCell ⟨P + 1, 1, none⟩ (.int .i64 0)).setCell ⟨P + 1, 2, none⟩ (.int .i64 1)).setCell ⟨P + 1, 3, none⟩ (.slice vo vn vc))) := by
    refine ⟨.slice vo vn vc, ?_, ?_, set4_below (by have := HP.out; omega) HB4.out⟩
    ·
     rw [HM.out, HC.out]; rfl
    ·
     rw [HM.out]
     have l1 := HPQ.out.1
     exact own_monoB (ownsRow_setCell_below (ownsRow_setCell_below (ownsRow_setCell_below (ownsRow_setCell_below ho4 (a := ⟨P + 1, 0, none⟩) (by show P + 1 < q + 1; omega) _) (a := ⟨P + 1, 1, none⟩) (by show P + 1 < q + 1; omega) _) (a := ⟨P + 1, 2, none⟩) (by show P + 1 < q + 1; omega) _) (a := ⟨P + 1, 3, none⟩) (by show P + 1 < q + 1; omega) _) (by have := HPQ.out.2; omega)
   clear x9 hq4 ho4
   go_wp2
   refine bodyPost_ret (v := .tuple #[.agg #[.int .i64 b.sz, .int .i64 0, .int .i64 1, .slice vo vn vc], .int .i64 0]) ?_ rfl HEND.out
   simp only [results, Try.results10]
   go_simp
  ·
   have HC : Hid (nf.code e x = 10) := by show _ = _; unfold nf.code; rw [if_neg (by rw [HOK.out]; decide), ← HBB.out, if_pos hfu]
   have HM : Hid (nf.made e x = ⟨0, []⟩) := by show _ = _; unfold nf.made; rw [HC.out]; rfl
   have x9 : ((((wF.setCell ⟨P + 1, 0, none⟩ (.int .i64 0)).setCell ⟨P + 1, 1, none⟩ (.int .i64 0)).setCell ⟨P + 1, 2, none⟩ (.int .i64 0)).setCell ⟨P + 1, 3, none⟩ (.slice none 0 0)).heap[P + 1]? = some (.cells #[.int .i64 0, .int .i64 0, .int .i64 0, .slice none 0 0] 32 (0, 0)) := set4n HY4.out
   have e0 := boxc x9 0 _ rfl
   have e1 := boxc x9 1 _ rfl
   have e2 := boxc x9 2 _ rfl
   have e3 := boxc x9 3 _ rfl
   have HEND : Hid (BldP e x w (.returned (.tuple #[.agg #[.int .i64 0, .int .i64 0, .int .i64 0, .slice none 0 0], .int .i64 10])) ((((wF.setCell ⟨P + 1, 0, none⟩ (.int .i64 0)).setCell ⟨P + 1, 1, none⟩ (.int .i64 0)).setCell ⟨P + 1, 2, none⟩ (.int .i64 0)).setCell ⟨P + 1, 3, none⟩ (.slice none 0 0))) := by
    refine ⟨.slice none 0 0, ?_, ?_, set4_below (by have := HP.out; omega) HB4.out⟩
    ·
     rw [HM.out, HC.out]; rfl
    ·
     rw [HM.out]; exact World.ownsRow_nil _ _ _ _
   clear x9
   go_wp2
   refine bodyPost_ret (v := .tuple #[.agg #[.int .i64 0, .int .i64 0, .int .i64 0, .slice none 0 0], .int .i64 10]) ?_ rfl HEND.out
   simp only [results, Try.results10]
   go_simp
end Go.Proofs.Ytmfgplbfojnkdaa
namespace Go.Proofs.Ytmfgplbfojnkdaa.nf
open rx
structure Eg (s f m : Nat) (e : Ed) : Prop where
 fr : s ≤ e.fr
 to : s ≤ e.to
 nf : e.fr ≠ f
 ns : e.to ≠ s
 frm : e.fr < m
 tom : e.to < m
 cl : e.fre = true → e.cl = Cls.zero
theorem Eg.mono {s f m m' : Nat} {e : Ed} (h : Eg s f m e) (hm : m ≤ m') : Eg s f m' e := ⟨h.fr, h.to, h.nf, h.ns, by have := h.frm; omega, by have := h.tom; omega, h.cl⟩
theorem Eg.inner {s s' m : Nat} {e : Ed} (h : Eg s' (s' + 1) m e) (hs : s + 2 ≤ s') : Eg s (s + 1) m e := ⟨by have := h.fr; omega, by have := h.to; omega, by have := h.fr; omega, by have := h.to; omega, h.frm, h.tom, h.cl⟩
structure New (s : Nat) (b b' : Bd) : Prop where
 sz : b.sz ≤ b'.sz
 new : ∃ l, b'.es = b.es ++ l ∧ ∀ e ∈ l, Eg s (s + 1) b'.sz e
theorem New.refl (s : Nat) (b : Bd) : New s b b := ⟨Nat.le_refl _, [], by simp, fun _ h => by cases h⟩
theorem New.trans {s : Nat} {a b c : Bd} (h : New s a b) (h2 : New s b c) : New s a c := by
 obtain ⟨l, e, hl⟩ := h.new
 obtain ⟨l2, e2, hl2⟩ := h2.new
 refine ⟨Nat.le_trans h.sz h2.sz, l ++ l2, by rw [e2, e, List.append_assoc], fun x hx => ?_⟩
 rcases List.mem_append.1 hx with hx | hx
 ·
  exact (hl x hx).mono h2.sz
 ·
  exact hl2 x hx
theorem New.inner {s s' : Nat} {a b : Bd} (h : New s' a b) (hs : s + 2 ≤ s') : New s a b := by
 obtain ⟨l, e, hl⟩ := h.new
 exact ⟨h.sz, l, e, fun x hx => (hl x hx).inner hs⟩
theorem New.free {s f t : Nat} {a b : Bd} (h : New s a b) (h1 : s ≤ f) (h2 : s ≤ t) (h3 : f ≠ s + 1) (h4 : t ≠ s) (h5 : f < b.sz) (h6 : t < b.sz) : New s a (b.free f t) := by
 refine h.trans ⟨Nat.le_refl _, [⟨f, t, true, .zero⟩], rfl, fun x hx => ?_⟩
 rw [List.mem_singleton.1 hx]
 exact ⟨h1, h2, h3, h4, h5, h6, fun _ => rfl⟩
def ONew (O : Pat → Bd → Bd) : Prop := ∀ x b, b.sz ≤ 400 → Lay b (O x b) ∧ New b.sz b (O x b)
theorem then_new {O : Pat → Bd → Bd} (hO : ONew O) (s : Nat) : ∀ (ks : List Pat) (e : Nat) (b : Bd), s + 2 ≤ b.sz → (e = s ∨ s + 2 ≤ e) → e < b.sz → b.sz ≤ 402 →
  New s b (thenF O ks e b).2 ∧ ((thenF O ks e b).1 = s ∨ s + 2 ≤ (thenF O ks e b).1) ∧ (thenF O ks e b).1 < (thenF O ks e b).2.sz
 | [], _, b, _, h2, h3, _ => ⟨New.refl s b, h2, h3⟩
 | k :: ks, e, b, h1, h2, h3, h4 => by
  unfold thenF
  cases hf : b.full with
  | true => exact ⟨New.refl s b, h2, h3⟩
  | false =>
   obtain ⟨hl, hn⟩ := hO k b (full_no hf)
   have hz := hl.sz
   have hn2 : New s b ((O k b).free e b.sz) := (hn.inner h1).free (by omega) (by omega) (by omega) (by omega) (by omega) (by omega)
   obtain ⟨a1, a2, a3⟩ := then_new hO s ks (b.sz + 1) ((O k b).free e b.sz) (by show s + 2 ≤ (O k b).sz; omega) (Or.inr (by omega)) (by show b.sz + 1 < (O k b).sz; omega) hl.top
   exact ⟨hn2.trans a1, a2, a3⟩
theorem or_new {O : Pat → Bd → Bd} (hO : ONew O) (s : Nat) : ∀ (ks : List Pat) (b : Bd), s + 2 ≤ b.sz → b.sz ≤ 402 → New s b (orF O s (s + 1) ks b)
 | [], b, _, _ => New.refl s b
 | k :: ks, b, h1, h4 => by
  unfold orF
  cases hf : b.full with
  | true => exact New.refl s b
  | false =>
   obtain ⟨hl, hn⟩ := hO k b (full_no hf)
   have hz := hl.sz
   have hn2 : New s b (((O k b).free s b.sz).free (b.sz + 1) (s + 1)) := ((hn.inner h1).free (by omega) (by omega) (by omega) (by omega) (by omega) (by omega)).free (by omega) (by omega) (by omega) (by omega) (by show b.sz + 1 < (O k b).sz; omega) (by show s + 1 < (O k b).sz; omega)
   exact hn2.trans (or_new hO s ks _ (by show s + 2 ≤ (O k b).sz; omega) hl.top)
theorem one_new {O : Bd → Bd} {b : Bd} (hl : Lay b (O b)) (hn : New b.sz b (O b)) (s : Nat) (mn mx : Int) (n i e : Nat) (h1 : s + 2 ≤ b.sz) (h2 : e = s ∨ s + 2 ≤ e) (h3 : e < b.sz) :
  New s b (oneF O mn mx (s + 1) n i e b) ∧ (oneF O mn mx (s + 1) n i e b).sz = (O b).sz := by
 have hz := hl.sz
 have hn1 : New s b ((O b).free e b.sz) := (hn.inner h1).free (by omega) (by omega) (by omega) (by omega) (by omega) (by omega)
 have hn2 : New s b (if mn ≤ (i : Int) then ((O b).free e b.sz).free e (s + 1) else (O b).free e b.sz) := by
  split
  ·
   exact hn1.free (by omega) (by omega) (by omega) (by omega) (by show e < (O b).sz; omega) (by show s + 1 < (O b).sz; omega)
  ·
   exact hn1
 have hs2 : (if mn ≤ (i : Int) then ((O b).free e b.sz).free e (s + 1) else (O b).free e b.sz).sz = (O b).sz := by split <;> rfl
 unfold oneF
 simp only
 split
 ·
  exact ⟨hn2.free (by omega) (by omega) (by omega) (by omega) (by rw [hs2]; omega) (by rw [hs2]; omega), hs2⟩
 ·
  exact ⟨hn2, hs2⟩
theorem many_new {O : Bd → Bd} (hO : ∀ b, b.sz ≤ 400 → Lay b (O b) ∧ New b.sz b (O b)) (s : Nat) (mn mx : Int) : ∀ (n i e : Nat) (b : Bd), s + 2 ≤ b.sz → (e = s ∨ s + 2 ≤ e) → e < b.sz → b.sz ≤ 402 →
  New s b (manyF O mn mx (s + 1) n i e b).2 ∧ ((manyF O mn mx (s + 1) n i e b).1 = s ∨ s + 2 ≤ (manyF O mn mx (s + 1) n i e b).1) ∧ (manyF O mn mx (s + 1) n i e b).1 < (manyF O mn mx (s + 1) n i e b).2.sz
 | 0, _, _, b, _, h2, h3, _ => ⟨New.refl s b, h2, h3⟩
 | n + 1, i, e, b, h1, h2, h3, h4 => by
  unfold manyF
  cases hf : b.full with
  | true => exact ⟨New.refl s b, h2, h3⟩
  | false =>
   obtain ⟨hl, hn⟩ := hO b (full_no hf)
   have hz := hl.sz
   obtain ⟨o1, o2⟩ := one_new hl hn s mn mx n i e h1 h2 h3
   obtain ⟨a1, a2, a3⟩ := many_new hO s mn mx n (i + 1) (b.sz + 1) (oneF O mn mx (s + 1) n i e b) (by rw [o2]; omega) (Or.inr (by omega)) (by rw [o2]; omega) (by rw [o2]; exact hl.top)
   exact ⟨o1.trans a1, a2, a3⟩
theorem of_new : ∀ (d : Nat) (x : Pat) (b : Bd), b.sz ≤ 400 → New b.sz b (of d x b)
 | 0, _, b, _ => ⟨by show b.sz ≤ b.sz + 2; omega, [], by simp [of], fun _ h => by cases h⟩
 | d + 1, x, b, h => by
  have hO : ONew (of d) := fun x c hc => ⟨of_lay d x c hc, of_new d x c hc⟩
  have h0 : New b.sz b ⟨b.sz + 2, b.es⟩ := ⟨by show b.sz ≤ b.sz + 2; omega, [], by simp, fun _ h => by cases h⟩
  unfold of
  simp only
  split
  ·
   exact h0.free (by omega) (by omega) (by omega) (by omega) (by show b.sz < b.sz + 2; omega) (by show b.sz + 1 < b.sz + 2; omega)
  ·
   split
   ·
    refine ⟨by show b.sz ≤ b.sz + 2; omega, [⟨b.sz, b.sz + 1, false, x.cl⟩], rfl, fun e he => ?_⟩
    rw [List.mem_singleton.1 he]
    exact ⟨Nat.le_refl _, by show b.sz ≤ b.sz + 1; omega, by show b.sz ≠ b.sz + 1; omega, by show b.sz + 1 ≠ b.sz; omega, by show b.sz < b.sz + 2; omega, by show b.sz + 1 < b.sz + 2; omega, fun h => by cases h⟩
   ·
    split
    ·
     obtain ⟨a1, a2, a3⟩ := then_new hO b.sz x.ks b.sz ⟨b.sz + 2, b.es⟩ (by show b.sz + 2 ≤ b.sz + 2; omega) (Or.inl rfl) (by show b.sz < b.sz + 2; omega) (by show b.sz + 2 ≤ 402; omega)
     have a4 : b.sz + 2 ≤ _ := a1.sz
     exact (h0.trans a1).free (by omega) (by omega) (by omega) (by omega) a3 (by omega)
    ·
     split
     ·
      exact h0.trans (or_new hO b.sz x.ks _ (by show b.sz + 2 ≤ b.sz + 2; omega) (by show b.sz + 2 ≤ 402; omega))
     ·
      split
      ·
       obtain ⟨a1, a2, a3⟩ := many_new (O := of d (x.ks.getD 0 default)) (fun c hc => hO _ c hc) b.sz x.mn x.mx (times x.mn x.mx) 0 b.sz ⟨b.sz + 2, b.es⟩ (by show b.sz + 2 ≤ b.sz + 2; omega) (Or.inl rfl) (by show b.sz < b.sz + 2; omega) (by show b.sz + 2 ≤ 402; omega)
       have a4 : b.sz + 2 ≤ _ := a1.sz
       exact (h0.trans a1).free (by omega) (by omega) (by omega) (by omega) a3 (by omega)
      ·
       exact h0
theorem made_edges {e : Nat} {x : Pat} (h : code e x = 0) : ∀ d ∈ (made e x).es, Eg 0 1 (made e x).sz d := by
 have hm : made e x = of e x ⟨0, []⟩ := by unfold made; rw [if_pos h]
 rw [hm]
 obtain ⟨l, he, hl⟩ := (of_new e x ⟨0, []⟩ (by show 0 ≤ 400; omega)).new
 intro d hd
 rw [he] at hd
 exact hl d (by simpa using hd)
theorem made_rgt {e : Nat} {x : Pat} (h : code e x = 0) : Rgt (made e x).sz 0 1 (made e x).es := by
 have hE := made_edges h
 have hm : made e x = of e x ⟨0, []⟩ := by unfold made; rw [if_pos h]
 have hl := of_lay e x ⟨0, []⟩ (by show 0 ≤ 400; omega)
 rw [← hm] at hl
 have h1 : 0 + 2 ≤ _ := hl.sz
 have h2 := hl.es
 simp only [List.length_nil] at h2
 have hf : (made e x).full = false := by
  rw [hm]
  unfold code at h
  by_cases ho : okF 48 x = false
  ·
   rw [if_pos ho] at h; cases h
  ·
   rw [if_neg ho] at h
   cases hff : (of e x ⟨0, []⟩).full
   ·
    rfl
   ·
    rw [hff] at h; cases h
 have h4 := full_no hf
 exact ⟨by omega, h4, by omega, by omega, by omega, fun d hd => (hE d hd).frm, fun d hd => (hE d hd).tom, fun d hd => (hE d hd).cl⟩
end Go.Proofs.Ytmfgplbfojnkdaa.nf
namespace Go.Proofs.Ytmfgplbfojnkdaa.rf
open rx
structure T where
 p : Nat
 wr : Int
 co : Int
deriving DecidableEq
namespace T
def fail (at' co : Int) (t : T) : T := if t.co = 0 then { t with wr := at', co := co } else t
def fwd (t : T) : T := { t with p := t.p + 1 }
def up (dp : Int) (t : T) : St := ⟨t.p, dp, t.wr, t.co⟩
end T
def spc (c : Nat) : Bool := [92, 46, 43, 42, 63, 40, 41, 124, 91, 93, 123, 125, 94, 36, 45].contains c
def dig (c : Nat) : Int := if 48 ≤ c ∧ c ≤ 57 then (c : Int) - 48 else if 97 ≤ c ∧ c ≤ 102 then (c : Int) - 87 else -1
def spanF : Nat → Nat → Cls → Cls
 | 0, _, x => x
 | n + 1, c, x => spanF n (c + 1) (x.or (Cls.one c))
def span (a b : Nat) : Cls := spanF (b + 1 - a) a .zero
def oth (k : Cls) : Cls := ⟨18446744073709551615 - k.a, 18446744073709551615 - k.b, 18446744073709551615 - k.c, 18446744073709551615 - k.d⟩
def word : Cls := ((span 97 122).or (span 65 90)).or ((span 48 57).or (Cls.one 95))
section
variable (s : List Nat)
def nxt (t : T) : Option Nat := if t.co = 0 then s[t.p]? else none
def meets (c : Nat) (t : T) : Bool × T := if nxt s t = some c then (true, t.fwd) else (false, t)
def hex (c : Nat) (t : T) : Option Nat :=
 if c = 120 then match s[t.p]?, s[t.p + 1]? with
  | some a, some b => if 0 ≤ dig a ∧ 0 ≤ dig b then some (16 * dig a + dig b).toNat else none
  | _, _ => none
 else none
def escape (start : Nat) (t : T) : (Cls × Nat × Bool) × T :=
 match nxt s t with
 | none => ((.zero, 0, false), t.fail start 9)
 | some c =>
  if spc c = true then ((.one c, c, true), t.fwd) else
  if c = 100 then ((span 48 57, 0, false), t.fwd) else
  if c = 119 then ((word, 0, false), t.fwd) else
  match hex s c t.fwd with
  | some v => ((.one v, v, true), t.fwd.fwd.fwd)
  | none => ((.zero, 0, false), t.fwd.fail start 9)
def single (t : T) : (Cls × Nat × Bool) × T :=
 match s[t.p]? with
 | none => ((.zero, 0, false), t)
 | some c => if c = 92 then escape s t.p t.fwd else
  if c < 32 ∨ 126 < c ∨ c = 91 ∨ c = 93 ∨ c = 94 ∨ c = 45 then ((.zero, 0, false), t.fwd.fail t.p 9) else ((.one c, c, true), t.fwd)
def member (t : T) : Cls × T :=
 let r := single s t
 if r.1.2.2 = false then (r.1.1, r.2) else
 let m := meets s 45 r.2
 if m.1 = false then (r.1.1, m.2) else
 match nxt s m.2 with
 | none => (r.1.1, m.2.fail t.p 9)
 | some c => if c = 93 then (r.1.1, m.2.fail t.p 9) else
  let q := single s m.2
  if q.1.2.2 = false ∨ q.1.2.1 < r.1.2.1 then (r.1.1, q.2.fail t.p 9) else (span r.1.2.1 q.1.2.1, q.2)
def mems (start : Nat) : Nat → Cls → T → Cls × T × Bool
 | 0, x, t => (x, t, false)
 | f + 1, x, t =>
  let e := meets s 93 t
  if e.1 = true then (x, e.2, true) else
  match nxt s t with
  | none => (x, t.fail start 9, false)
  | some _ => let r := member s t; mems start f (x.or r.1) r.2
def members (start : Nat) (t : T) : Cls × T :=
 let m := meets s 94 t
 let r := mems s start (s.length + 1) .zero m.2
 if r.2.2 = false then (r.1, r.2.1) else
 let x := if m.1 = true then oth r.1 else r.1
 if x = .zero then (x, r.2.1.fail start 9) else (x, r.2.1)
def numF (start : Nat) : Nat → Nat → T → Nat × T
 | 0, n, t => (n, t)
 | f + 1, n, t => match nxt s t with
  | none => (n, t)
  | some c => if 48 ≤ c ∧ c ≤ 57 ∧ t.p - start < 4 then numF start f (10 * n + (c - 48)) t.fwd else (n, t)
def number (t : T) : (Nat × Bool) × T :=
 let r := numF s t.p 5 0 t
 let d := r.2.p - t.p
 ((r.1, decide (1 ≤ d ∧ d ≤ 3 ∧ (d = 1 ∨ s[t.p]? ≠ some 48))), r.2)
def bounds (t : T) : (Int × Int × Bool) × T :=
 let a := number s t
 if a.1.2 = false then ((0, 0, false), a.2) else
 let m := meets s 125 a.2
 if m.1 = true then ((a.1.1, a.1.1, true), m.2) else
 let c := meets s 44 a.2
 if c.1 = false then ((0, 0, false), a.2) else
 let m := meets s 125 c.2
 if m.1 = true then ((a.1.1, -1, true), m.2) else
 let b := number s c.2
 if b.1.2 = false then ((0, 0, false), b.2) else
 let m := meets s 125 b.2
 if m.1 = false ∨ b.1.1 < a.1.1 then ((0, 0, false), m.2) else ((a.1.1, b.1.1, true), m.2)
def often (t : T) : (Int × Int × Bool) × T :=
 if nxt s t = some 42 then ((0, -1, true), t.fwd) else
 if nxt s t = some 43 then ((1, -1, true), t.fwd) else
 if nxt s t = some 63 then ((0, 1, true), t.fwd) else
 if nxt s t = some 123 then
  let r := bounds s t.fwd
  if r.1.2.2 = false then (r.1, r.2.fail t.p 9) else
  if 20 < r.1.1 ∨ 20 < r.1.2.1 then (r.1, r.2.fail t.p 4) else r
 else ((0, 0, false), t)
section
variable (O : T → Pat × T)
def part (t : T) : Pat × T := let r := O t; let o := often s r.2; (many r.1 o.1, o.2)
def parts : Nat → T → List Pat → List Pat × T
 | 0, t, l => (l, t)
 | f + 1, t, l => match nxt s t with
  | none => (l, t)
  | some c => if c = 124 ∨ c = 41 then (l, t) else
   let r := part s O t
   parts f r.2 (if r.1.k ≠ 1 then l ++ [r.1] else l)
def row (t : T) : Pat × T := let r := parts s O (s.length + 1) t []; (Pat.gather 3 r.1, r.2)
def rowsL : Nat → T → List Pat → List Pat × T
 | 0, t, l => (l, t)
 | f + 1, t, l => let m := meets s 124 t
  if m.1 = true then let r := row s O m.2; rowsL f r.2 (l ++ [r.1]) else (l, t)
def rows (t : T) : Pat × T := let r := row s O t; let q := rowsL s O (s.length + 1) r.2 [r.1]; (Pat.gather 4 q.1, q.2)
end
def onceB (G : Nat → T → Pat × T) (t : T) : Pat × T :=
 match s[t.p]? with
 | none => (.zero, t)
 | some c =>
  if c = 40 then G t.p t.fwd else
  if c = 91 then let r := members s t.p t.fwd; (Pat.ofCls r.1, r.2) else
  if c = 92 then let r := escape s t.p t.fwd; (Pat.ofCls r.1.1, r.2) else
  if c = 46 then (Pat.ofCls (oth .zero), t.fwd) else
  if c = 45 ∨ (32 ≤ c ∧ c ≤ 126 ∧ spc c = false) then (Pat.ofCls (.one c), t.fwd) else (.zero, t.fwd.fail t.p 9)
def once : Nat → T → Pat × T
 | 0 => onceB s (fun at' t => (.zero, t.fail at' 11))
 | n + 1 => onceB s (fun at' t => let r := rows s (once n) t; let m := meets s 41 r.2; (r.1, if m.1 = true then m.2 else m.2.fail at' 9))
def group (n : Nat) (at' : Nat) (t : T) : Pat × T :=
 match n with
 | 0 => (.zero, t.fail at' 11)
 | n + 1 => let r := rows s (once s n) t; let m := meets s 41 r.2; (r.1, if m.1 = true then m.2 else m.2.fail at' 9)
theorem once_eq (n : Nat) : once s n = onceB s (group s n) := by
 cases n <;> rfl
def parse : Pat × Int × Int :=
 if 60 < s.length then (.zero, 0, 4) else
 let r := rows s (once s 12) ⟨0, 0, 0⟩
 let t := if r.2.co = 0 ∧ r.2.p < s.length then r.2.fail r.2.p 9 else r.2
 if t.co ≠ 0 then (.zero, t.wr, t.co) else (r.1, 0, 0)
end
end Go.Proofs.Ytmfgplbfojnkdaa.rf
namespace Go.Proofs.Ytmfgplbfojnkdaa.rf
open rx
section
variable {s : List Nat} {t t' : T}
@[simp] theorem fail_p (a b : Int) : (t.fail a b).p = t.p := by unfold T.fail; split <;> rfl
theorem nxt_some {c : Nat} (h : nxt s t = some c) : t.co = 0 ∧ s[t.p]? = some c ∧ t.p < s.length := by
 unfold nxt at h
 split at h
 ·
  exact ⟨by assumption, h, (List.getElem?_eq_some_iff.1 h).1⟩
 ·
  cases h
def Pr (s : List Nat) (t t' : T) : Prop := t.p ≤ t'.p ∧ (t.p ≤ s.length → t'.p ≤ s.length)
theorem Pr.refl : Pr s t t := ⟨Nat.le_refl _, id⟩
theorem Pr.trans {t1 t2 : T} (h : Pr s t t1) (k : Pr s t1 t2) : Pr s t t2 := ⟨Nat.le_trans h.1 k.1, fun e => k.2 (h.2 e)⟩
theorem Pr.fail (h : Pr s t t') (a b : Int) : Pr s t (t'.fail a b) := by unfold Pr; rw [fail_p]; exact h
theorem Pr.fwd (h : t.p < s.length) : Pr s t t.fwd := ⟨Nat.le_succ _, fun _ => h⟩
theorem meets_pr (c : Nat) : Pr s t (meets s c t).2 := by
 unfold meets
 split
 ·
  rename_i h; exact Pr.fwd (nxt_some h).2.2
 ·
  exact Pr.refl
theorem hex_len {c v : Nat} (h : hex s c t = some v) : t.p + 1 < s.length := by
 unfold hex at h
 split at h
 ·
  split at h
  ·
   rename_i h2; exact (List.getElem?_eq_some_iff.1 h2).1
  ·
   cases h
 ·
  cases h
theorem escape_pr (a : Nat) : Pr s t (escape s a t).2 := by
 unfold escape
 split
 ·
  exact Pr.refl.fail _ _
 ·
  rename_i c hc
  have hl := (nxt_some hc).2.2
  split
  ·
   exact Pr.fwd hl
  ·
   split
   ·
    exact Pr.fwd hl
   ·
    split
    ·
     exact Pr.fwd hl
    ·
     split
     ·
      rename_i h
      have := hex_len h
      simp only [T.fwd] at this
      refine ⟨by simp only [T.fwd]; omega, fun _ => by simp only [T.fwd]; omega⟩
     ·
      exact (Pr.fwd hl).fail _ _
theorem single_pr : Pr s t (single s t).2 := by
 unfold single
 split
 ·
  exact Pr.refl
 ·
  rename_i c hc
  have hl := (List.getElem?_eq_some_iff.1 hc).1
  split
  ·
   exact (Pr.fwd hl).trans (escape_pr _)
  ·
   split
   ·
    exact (Pr.fwd hl).fail _ _
   ·
    exact Pr.fwd hl
theorem single_lt (h : t.p < s.length) : t.p < (single s t).2.p := by
 unfold single
 rw [List.getElem?_eq_getElem h]
 simp only
 split
 ·
  exact Nat.lt_of_lt_of_le (Nat.lt_succ_self _) (escape_pr (t := t.fwd) _).1
 ·
  split
  ·
   rw [fail_p]; exact Nat.lt_succ_self _
  ·
   exact Nat.lt_succ_self _
theorem member_pr : Pr s t (member s t).2 ∧ (single s t).2.p ≤ (member s t).2.p := by
 have h0 : Pr s t (single s t).2 := single_pr
 have h1 := h0.trans (meets_pr (s := s) 45)
 have g1 := (meets_pr (s := s) (t := (single s t).2) 45).1
 unfold member
 simp only
 split
 ·
  exact ⟨h0, Nat.le_refl _⟩
 ·
  split
  ·
   exact ⟨h1, g1⟩
  ·
   split
   ·
    exact ⟨h1.fail _ _, by rw [fail_p]; exact g1⟩
   ·
    split
    ·
     exact ⟨h1.fail _ _, by rw [fail_p]; exact g1⟩
    ·
     have h2 := single_pr (s := s) (t := (meets s 45 (single s t).2).2)
     split
     ·
      exact ⟨(h1.trans h2).fail _ _, by rw [fail_p]; exact Nat.le_trans g1 h2.1⟩
     ·
      exact ⟨h1.trans h2, Nat.le_trans g1 h2.1⟩
theorem member_lt (h : t.p < s.length) : t.p < (member s t).2.p := Nat.lt_of_lt_of_le (single_lt h) member_pr.2
theorem mems_pr (a : Nat) : ∀ (f : Nat) (x : Cls) (t : T), Pr s t (mems s a f x t).2.1
 | 0, _, _ => Pr.refl
 | f + 1, x, t => by
  unfold mems
  simp only
  split
  ·
   exact meets_pr _
  ·
   split
   ·
    exact Pr.refl.fail _ _
   ·
    exact member_pr.1.trans (mems_pr a f _ _)
theorem members_pr (a : Nat) : Pr s t (members s a t).2 := by
 have h : Pr s t (mems s a (s.length + 1) .zero (meets s 94 t).2).2.1 := (meets_pr _).trans (mems_pr a _ _ _)
 unfold members
 simp only
 split
 ·
  exact h
 ·
  split <;> split
  ·
   exact h.fail _ _
  ·
   exact h
  ·
   exact h.fail _ _
  ·
   exact h
theorem numF_pr (a : Nat) : ∀ (f n : Nat) (t : T), Pr s t (numF s a f n t).2
 | 0, _, _ => Pr.refl
 | f + 1, n, t => by
  unfold numF
  split
  ·
   exact Pr.refl
  ·
   rename_i c hc
   split
   ·
    exact (Pr.fwd (nxt_some hc).2.2).trans (numF_pr a f _ _)
   ·
    exact Pr.refl
theorem number_pr : Pr s t (number s t).2 := numF_pr _ _ _ _
theorem bounds_pr : Pr s t (bounds s t).2 := by
 have h1 : Pr s t (number s t).2 := number_pr
 unfold bounds
 simp only
 split
 ·
  exact h1
 ·
  split
  ·
   exact h1.trans (meets_pr _)
  ·
   split
   ·
    exact h1
   ·
    have h2 := h1.trans (meets_pr (s := s) 44)
    split
    ·
     exact h2.trans (meets_pr _)
    ·
     have h3 := h2.trans number_pr
     split
     ·
      exact h3
     ·
      split <;> exact h3.trans (meets_pr _)
theorem often_pr : Pr s t (often s t).2 := by
 unfold often
 split
 ·
  rename_i h; exact Pr.fwd (nxt_some h).2.2
 ·
  split
  ·
   rename_i h; exact Pr.fwd (nxt_some h).2.2
  ·
   split
   ·
    rename_i h; exact Pr.fwd (nxt_some h).2.2
   ·
    split
    ·
     rename_i h
     have h1 := (Pr.fwd (nxt_some h).2.2).trans (bounds_pr (s := s) (t := t.fwd))
     simp only
     split
     ·
      exact h1.fail _ _
     ·
      split
      ·
       exact h1.fail _ _
      ·
       exact h1
    ·
     exact Pr.refl
end
mutual
def sz : Pat → Nat | .mk _ _ ks _ _ => 1 + szs ks
def szs : List Pat → Nat | [] => 0 | x :: l => sz x + szs l
end
theorem sz_pos : ∀ x : Pat, 1 ≤ sz x | .mk _ _ _ _ _ => by unfold sz; omega
theorem szs_app : ∀ l m : List Pat, szs (l ++ m) = szs l + szs m
 | [], m => by simp [szs]
 | x :: l, m => by simp only [List.cons_append, szs, szs_app l m]; omega
theorem szs_len : ∀ l : List Pat, l.length ≤ szs l
 | [] => by simp [szs]
 | x :: l => by have := szs_len l; have := sz_pos x; simp only [List.length_cons, szs]; omega
theorem ks_sz : ∀ x : Pat, szs x.ks + 1 = sz x | .mk _ _ _ _ _ => by simp only [Pat.ks, sz]; omega
theorem szs_flat (kind : Int) : ∀ l : List Pat, szs (Pat.flat kind l) ≤ szs l
 | [] => Nat.le_refl _
 | x :: l => by
  have h := szs_flat kind l
  unfold Pat.flat at h ⊢
  rw [List.flatMap_cons, szs_app]
  simp only [szs]
  have := ks_sz x
  split
  ·
   omega
  ·
   simp only [szs]; omega
theorem sz_gather (kind : Int) (l : List Pat) : sz (Pat.gather kind l) ≤ 1 + szs l := by
 have h := szs_flat kind l
 unfold Pat.gather
 split
 ·
  simp only [sz, szs]; omega
 ·
  rename_i x e; rw [e] at h; simp only [szs] at h; omega
 ·
  simp only [sz]; omega
def Good (s : List Nat) (a : Nat) (O : T → Pat × T) : Prop := ∀ t : T, t.p < s.length → t.p < (O t).2.p ∧ (O t).2.p ≤ s.length ∧ sz (O t).1 ≤ a * ((O t).2.p - t.p)
section
variable {s : List Nat} {a : Nat} {O : T → Pat × T}
theorem sz_many (x : Pat) (o : Int × Int × Bool) : sz (many x o) ≤ sz x + 1 := by
 unfold many
 split
 ·
  omega
 ·
  split
  ·
   omega
  ·
   simp only [sz, szs]; omega
theorem part_good (h : Good s a O) (t : T) (ht : t.p < s.length) : t.p < (part s O t).2.p ∧ (part s O t).2.p ≤ s.length ∧ sz (part s O t).1 ≤ a * ((part s O t).2.p - t.p) + 1 := by
 obtain ⟨h1, h2, h3⟩ := h t ht
 have h4 := often_pr (s := s) (t := (O t).2)
 unfold part
 simp only
 refine ⟨Nat.lt_of_lt_of_le h1 h4.1, h4.2 h2, Nat.le_trans (sz_many _ _) ?_⟩
 have : a * ((O t).2.p - t.p) ≤ a * ((often s (O t).2).2.p - t.p) := Nat.mul_le_mul_left _ (by have := h4.1; omega)
 omega
theorem parts_good (h : Good s a O) : ∀ (f : Nat) (t : T) (l : List Pat), t.p ≤ s.length → t.p ≤ (parts s O f t l).2.p ∧ (parts s O f t l).2.p ≤ s.length ∧ szs (parts s O f t l).1 ≤ szs l + (a + 1) * ((parts s O f t l).2.p - t.p)
 | 0, t, l, ht => ⟨Nat.le_refl _, ht, Nat.le_add_right _ _⟩
 | f + 1, t, l, ht => by
  unfold parts
  split
  ·
   exact ⟨Nat.le_refl _, ht, Nat.le_add_right _ _⟩
  ·
   rename_i c hc
   split
   ·
    exact ⟨Nat.le_refl _, ht, Nat.le_add_right _ _⟩
   ·
    obtain ⟨g1, g2, g3⟩ := part_good h t (nxt_some hc).2.2
    simp only
    obtain ⟨k1, k2, k3⟩ := parts_good h f (part s O t).2 (if (part s O t).1.k ≠ 1 then l ++ [(part s O t).1] else l) g2
    refine ⟨by omega, k2, ?_⟩
    generalize (parts s O f (part s O t).2 (if (part s O t).1.k ≠ 1 then l ++ [(part s O t).1] else l)) = r at k1 k2 k3 ⊢
    have e1 : szs (if (part s O t).1.k ≠ 1 then l ++ [(part s O t).1] else l) ≤ szs l + sz (part s O t).1 := by
     split
     ·
      rw [szs_app]; simp only [szs]; omega
     ·
      omega
    have e2 : (a + 1) * (r.2.p - t.p) = (a + 1) * (r.2.p - (part s O t).2.p) + (a + 1) * ((part s O t).2.p - t.p) := by rw [← Nat.mul_add]; congr 1; omega
    have e3 : a * ((part s O t).2.p - t.p) + 1 ≤ (a + 1) * ((part s O t).2.p - t.p) := by rw [Nat.succ_mul]; omega
    omega
theorem row_good (h : Good s a O) (t : T) (ht : t.p ≤ s.length) : t.p ≤ (row s O t).2.p ∧ (row s O t).2.p ≤ s.length ∧ sz (row s O t).1 ≤ (a + 1) * ((row s O t).2.p - t.p) + 1 := by
 obtain ⟨h1, h2, h3⟩ := parts_good h (s.length + 1) t [] ht
 unfold row
 simp only
 refine ⟨h1, h2, Nat.le_trans (sz_gather _ _) ?_⟩
 simp only [szs] at h3
 omega
theorem rowsL_good (h : Good s a O) : ∀ (f : Nat) (t : T) (l : List Pat), t.p ≤ s.length → t.p ≤ (rowsL s O f t l).2.p ∧ (rowsL s O f t l).2.p ≤ s.length ∧ szs (rowsL s O f t l).1 ≤ szs l + (a + 1) * ((rowsL s O f t l).2.p - t.p)
 | 0, t, l, ht => ⟨Nat.le_refl _, ht, Nat.le_add_right _ _⟩
 | f + 1, t, l, ht => by
  unfold rowsL
  simp only
  split
  ·
   rename_i hm
   have hn : nxt s t = some 124 := by
    unfold meets at hm
    split at hm
    ·
     assumption
    ·
     cases hm
   have hm2 : (meets s 124 t).2 = t.fwd := by unfold meets; rw [if_pos hn]
   rw [hm2]
   obtain ⟨g1, g2, g3⟩ := row_good h t.fwd (nxt_some hn).2.2
   obtain ⟨k1, k2, k3⟩ := rowsL_good h f (row s O t.fwd).2 (l ++ [(row s O t.fwd).1]) g2
   have g0 : t.fwd.p = t.p + 1 := rfl
   refine ⟨by omega, k2, ?_⟩
   generalize (rowsL s O f (row s O t.fwd).2 (l ++ [(row s O t.fwd).1])) = r at k1 k2 k3 ⊢
   rw [szs_app] at k3
   simp only [szs] at k3
   have e2 : (a + 1) * (r.2.p - t.p) = (a + 1) * (r.2.p - (row s O t.fwd).2.p) + (a + 1) * ((row s O t.fwd).2.p - t.fwd.p) + (a + 1) := by
    rw [← Nat.mul_add, ← Nat.mul_succ]; congr 1; omega
   omega
  ·
   exact ⟨Nat.le_refl _, ht, Nat.le_add_right _ _⟩
theorem rows_good (h : Good s a O) (t : T) (ht : t.p ≤ s.length) : t.p ≤ (rows s O t).2.p ∧ (rows s O t).2.p ≤ s.length ∧ sz (rows s O t).1 ≤ (a + 1) * ((rows s O t).2.p - t.p) + 2 := by
 obtain ⟨h1, h2, h3⟩ := row_good h t ht
 obtain ⟨k1, k2, k3⟩ := rowsL_good h (s.length + 1) (row s O t).2 [(row s O t).1] h2
 unfold rows
 simp only
 refine ⟨Nat.le_trans h1 k1, k2, Nat.le_trans (sz_gather _ _) ?_⟩
 simp only [szs] at k3
 have e2 : (a + 1) * ((rowsL s O (s.length + 1) (row s O t).2 [(row s O t).1]).2.p - t.p) = (a + 1) * ((rowsL s O (s.length + 1) (row s O t).2 [(row s O t).1]).2.p - (row s O t).2.p) + (a + 1) * ((row s O t).2.p - t.p) := by rw [← Nat.mul_add]; congr 1; omega
 omega
end
theorem base_good {s : List Nat} {a : Nat} (ha : 1 ≤ a) (G : Nat → T → Pat × T) (hG : ∀ t : T, t.p < s.length → t.p + 1 ≤ (G t.p t.fwd).2.p ∧ (G t.p t.fwd).2.p ≤ s.length ∧ sz (G t.p t.fwd).1 ≤ a * ((G t.p t.fwd).2.p - t.p)) : Good s a (onceB s G) := by
 intro t ht
 have hz : ∀ (k : Cls) (p : Nat), t.p + 1 ≤ p → sz (Pat.ofCls k) ≤ a * (p - t.p) := fun k p h => by
  have : sz (Pat.ofCls k) = 1 := rfl
  have : 1 * 1 ≤ a * (p - t.p) := Nat.mul_le_mul ha (by omega)
  omega
 have hz0 : ∀ (p : Nat), t.p + 1 ≤ p → sz Pat.zero ≤ a * (p - t.p) := fun p h => by
  have : sz Pat.zero = 1 := rfl
  have : 1 * 1 ≤ a * (p - t.p) := Nat.mul_le_mul ha (by omega)
  omega
 unfold onceB
 rw [List.getElem?_eq_getElem ht]
 simp only
 have hf := Pr.fwd ht
 have e : t.fwd.p = t.p + 1 := rfl
 split
 ·
  obtain ⟨h1, h2, h3⟩ := hG t ht
  exact ⟨by omega, h2, h3⟩
 ·
  split
  ·
   have h1 := members_pr (s := s) (t := t.fwd) t.p
   have h2 := h1.1
   exact ⟨by show t.p < (members s t.p t.fwd).2.p; omega, h1.2 ht, hz _ _ (by rw [← e]; exact h2)⟩
  ·
   split
   ·
    have h1 := escape_pr (s := s) (t := t.fwd) t.p
    have h2 := h1.1
    exact ⟨by show t.p < (escape s t.p t.fwd).2.p; omega, h1.2 ht, hz _ _ (by rw [← e]; exact h2)⟩
   ·
    split
    ·
     exact ⟨by show t.p < t.p + 1; omega, ht, hz _ _ (Nat.le_refl _)⟩
    ·
     split
     ·
      exact ⟨by show t.p < t.p + 1; omega, ht, hz _ _ (Nat.le_refl _)⟩
     ·
      refine ⟨by show t.p < (t.fwd.fail t.p 9).p; rw [fail_p]; omega, by show (t.fwd.fail t.p 9).p ≤ _; rw [fail_p]; exact ht, hz0 _ (by rw [fail_p]; exact Nat.le_refl _)⟩
theorem once_good {s : List Nat} : ∀ n, Good s (2 * n + 1) (once s n)
 | 0 => by
  refine base_good (by omega) _ fun t ht => ?_
  simp only [fail_p]
  refine ⟨Nat.le_refl _, ht, ?_⟩
  have : sz Pat.zero = 1 := rfl
  show sz Pat.zero ≤ 1 * (t.p + 1 - t.p)
  omega
 | n + 1 => by
  refine base_good (by omega) _ fun t ht => ?_
  obtain ⟨h1, h2, h3⟩ := rows_good (once_good (s := s) n) t.fwd ht
  have h4 := meets_pr (s := s) (t := (rows s (once s n) t.fwd).2) 41
  have e : t.fwd.p = t.p + 1 := rfl
  simp only
  have key : ∀ q : Nat, (rows s (once s n) t.fwd).2.p ≤ q → q ≤ s.length → t.p + 1 ≤ q ∧ q ≤ s.length ∧ sz (rows s (once s n) t.fwd).1 ≤ (2 * (n + 1) + 1) * (q - t.p) := by
   intro q hq hl
   refine ⟨by omega, hl, Nat.le_trans h3 ?_⟩
   have e1 : (2 * (n + 1) + 1) * (q - t.p) = (2 * n + 1 + 1) * (q - t.p) + (q - t.p) := by rw [show 2 * (n + 1) + 1 = (2 * n + 1 + 1) + 1 by omega, Nat.succ_mul]
   have e2 : (2 * n + 1 + 1) * (q - t.p) = (2 * n + 1 + 1) * (q - t.fwd.p) + (2 * n + 1 + 1) := by rw [← Nat.mul_succ]; congr 1; omega
   have e3 : (2 * n + 1 + 1) * ((rows s (once s n) t.fwd).2.p - t.fwd.p) ≤ (2 * n + 1 + 1) * (q - t.fwd.p) := Nat.mul_le_mul_left _ (by omega)
   omega
  split
  ·
   exact key _ h4.1 (h4.2 h2)
  ·
   rw [fail_p]; exact key _ h4.1 (h4.2 h2)
end Go.Proofs.Ytmfgplbfojnkdaa.rf
