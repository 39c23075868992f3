/- net's law: its messages; codec's answer for two like ones. -/
import Derived.Test.YtpgccfgldjeomaaNtMsg
import Derived.Test.YtpgccfgldjeomaaCdWrite2
namespace Go.Proofs.Ytpgccfgldjeomaa
open Go.RowKit Go.ChangeShapes cl
def Said (x : Bool) (w : World) (e : Ending) (w' : World) : Prop := e = .returned (.bool x) ∧ Below w.heap.size w w'
theorem write_m (m : cd.Msg) (c : List Value) (w : World) (h : msgRel w w.heap.size c m) : Calls Try.prog 24 #[.agg c.toArray] w (Answer (cd.msg m) w) := by
  obtain ⟨ae, ne, ce, aa, na, ca, p1, m1, k1, p2, m2, k2, p3, m3, k3, p4, m4, k4, sa, sn, sc, rfl, h1, h2, h3, h4, h5, h6, h7, h8, h9⟩ := h
  exact write_any m ae ne ce aa na ca p1 m1 k1 p2 m2 k2 p3 m3 k3 p4 m4 k4 sa sn sc w h1 h2 h3 h4 h5 h6 h9 h7 h8
theorem rows_box {α : Type} {k n q : Nat} {R : Rel α} {W : World} {arr : Array Value} {T : TypeId} {fr : Nat × Nat} {l : List α} (h : W.heap[q]? = some (.cells arr T fr)) (cs : List (List Value)) (h0 : cs.length = l.length) (h1 : ∀ (j : Nat) (c : List Value) (x : α), cs[j]? = some c → l[j]? = some x → c.length = k ∧ R W W.heap.size c x) (ha : arr.toList = cs.flatten) (hn : n = l.length) (hm : n ≤ maxLen) :
    RowsAt k R W W.heap.size (.slice (some ⟨q, 0, none⟩) n n) l := by
  subst hn
  have hall := RowsAt.len h0 h1
  refine ⟨cs, h0, h1, by rw [flat_len cs hall, h0], some ⟨q, 0, none⟩, l.length, rfl, ⟨(fun e => by cases e), Nat.le_refl _⟩, hm, fun _ => ⟨q, 0, rfl, lt_of_block h, fun j u hj => ?_⟩⟩
  rw [← ha, Array.getElem?_toList] at hj
  rw [Nat.zero_add]
  exact boxc h j u hj
theorem one_list {α : Type} {P : List Value → α → Prop} {c : List Value} {x : α} (h : P c x) : ∀ (j : Nat) (c' : List Value) (x' : α), [c][j]? = some c' → [x][j]? = some x' → P c' x' := by
  intro j c' x' hc hx
  cases j with
  | zero => cases hc; cases hx; exact h
  | succ j => simp at hc

/-- the law's message number n -/
def msgN (n : Int) : cd.Msg := ⟨1 + n % 5, n % 3, n % 4, 0, n, [], [], [], [], [(1, 1 + n)], [], 0, ⟨#[]⟩, ⟨#[]⟩, [⟨#[120]⟩], 0⟩
theorem fit_msgN (n : Int) : Fit (msgN n) := by
  refine ⟨by show 0 ≤ _; omega, fun x hx => by simp [msgN] at hx, by show 0 ≤ _; omega, by show 0 ≤ _; omega, by show 0 ≤ _; omega, by show 1 ≤ _; omega, by show 0 ≤ _; omega, by show 1 ≤ _; omega⟩
set_option maxHeartbeats 3200000 in
set_option maxRecDepth 100000 in
theorem message_any (n : Int) (w : World) (h0 : 0 ≤ n) (h1 : n ≤ 1000000) : Calls Try.prog 23 #[.int .i64 n] w fun e w' => ∃ c, e = .returned (.agg (List.toArray c)) ∧ msgRel w' w'.heap.size c (msgN n) ∧ Below w.heap.size w w' := by
  obtain ⟨W, hW⟩ : ∃ W, W = ((w.alloc (.cells #[.int .i64 (1 + n % 5), .int .i64 (n % 3), .int .i64 (n % 4), .int .i64 0, .int .i64 n, .slice none 0 0, .slice none 0 0, .slice none 0 0, .slice none 0 0, .slice (some ⟨w.heap.size + 1, 0, none⟩) 1 1, .slice none 0 0, .int .i64 0, .string ⟨#[]⟩, .string ⟨#[]⟩, .slice (some ⟨w.heap.size + 1 + 1, 0, none⟩) 1 1, .int .i64 0] 34)).alloc (.cells #[.int .i64 1, .int .i64 (1 + n)] 57)).alloc (.cells #[.string ⟨#[120]⟩] 9) := ⟨_, rfl⟩
  have b1 : Below w.heap.size w (w.alloc (.cells #[.int .i64 (1 + n % 5), .int .i64 (n % 3), .int .i64 (n % 4), .int .i64 0, .int .i64 n, .slice none 0 0, .slice none 0 0, .slice none 0 0, .slice none 0 0, .slice (some ⟨w.heap.size + 1, 0, none⟩) 1 1, .slice none 0 0, .int .i64 0, .string ⟨#[]⟩, .string ⟨#[]⟩, .slice (some ⟨w.heap.size + 1 + 1, 0, none⟩) 1 1, .int .i64 0] 34)) := below1
  have b2 := (below1 (w := w.alloc (.cells #[.int .i64 (1 + n % 5), .int .i64 (n % 3), .int .i64 (n % 4), .int .i64 0, .int .i64 n, .slice none 0 0, .slice none 0 0, .slice none 0 0, .slice none 0 0, .slice (some ⟨w.heap.size + 1, 0, none⟩) 1 1, .slice none 0 0, .int .i64 0, .string ⟨#[]⟩, .string ⟨#[]⟩, .slice (some ⟨w.heap.size + 1 + 1, 0, none⟩) 1 1, .int .i64 0] 34)) (o := .cells #[.int .i64 1, .int .i64 (1 + n)] 57))
  have b3 := (below1 (w := (w.alloc (.cells #[.int .i64 (1 + n % 5), .int .i64 (n % 3), .int .i64 (n % 4), .int .i64 0, .int .i64 n, .slice none 0 0, .slice none 0 0, .slice none 0 0, .slice none 0 0, .slice (some ⟨w.heap.size + 1, 0, none⟩) 1 1, .slice none 0 0, .int .i64 0, .string ⟨#[]⟩, .string ⟨#[]⟩, .slice (some ⟨w.heap.size + 1 + 1, 0, none⟩) 1 1, .int .i64 0] 34)).alloc (.cells #[.int .i64 1, .int .i64 (1 + n)] 57)) (o := .cells #[.string ⟨#[120]⟩] 9))
  have e1 := heap_alloc_new (w.alloc (.cells #[.int .i64 (1 + n % 5), .int .i64 (n % 3), .int .i64 (n % 4), .int .i64 0, .int .i64 n, .slice none 0 0, .slice none 0 0, .slice none 0 0, .slice none 0 0, .slice (some ⟨w.heap.size + 1, 0, none⟩) 1 1, .slice none 0 0, .int .i64 0, .string ⟨#[]⟩, .string ⟨#[]⟩, .slice (some ⟨w.heap.size + 1 + 1, 0, none⟩) 1 1, .int .i64 0] 34)) (.cells #[.int .i64 1, .int .i64 (1 + n)] 57)
  have e2 := heap_alloc_new ((w.alloc (.cells #[.int .i64 (1 + n % 5), .int .i64 (n % 3), .int .i64 (n % 4), .int .i64 0, .int .i64 n, .slice none 0 0, .slice none 0 0, .slice none 0 0, .slice none 0 0, .slice (some ⟨w.heap.size + 1, 0, none⟩) 1 1, .slice none 0 0, .int .i64 0, .string ⟨#[]⟩, .string ⟨#[]⟩, .slice (some ⟨w.heap.size + 1 + 1, 0, none⟩) 1 1, .int .i64 0] 34)).alloc (.cells #[.int .i64 1, .int .i64 (1 + n)] 57)) (.cells #[.string ⟨#[120]⟩] 9)
  rw [← hW] at b3 e2
  simp only [World.size_alloc] at b2 b3 e1 e2
  have HB : Hid (Below w.heap.size w W) := (b1.trans (b2.mono (by omega))).trans (b3.mono (by omega))
  have hm1 : 1 ≤ maxLen := by unfold maxLen; omega
  have R1 := Lib.hid (rows_box (k := 2) (R := dotR) (l := [((1 : Int), 1 + n)]) ((b3.block _ (by omega)).trans e1) [[.int .i64 1, .int .i64 (1 + n)]] rfl (one_list ⟨rfl, rfl⟩) rfl rfl hm1)
  have R2 := Lib.hid (rows_box (k := 1) (R := strR) (l := [(⟨#[120]⟩ : ByteArray)]) e2 [[.string ⟨#[120]⟩]] rfl (one_list ⟨rfl, rfl, by decide⟩) rfl rfl hm1)
  have HW := Lib.hid hW
  clear b1 b2 b3 e1 e2 hm1 hW
  go_enter Try.func23, Try.ntmps23
  go_wp2
  refine bodyPost_ret (v := .agg #[.int .i64 (1 + n % 5), .int .i64 (n % 3), .int .i64 (n % 4), .int .i64 0, .int .i64 n, .slice none 0 0, .slice none 0 0, .slice none 0 0, .slice none 0 0, .slice (some ⟨w.heap.size + 1, 0, none⟩) 1 1, .slice none 0 0, .int .i64 0, .string ⟨#[]⟩, .string ⟨#[]⟩, .slice (some ⟨w.heap.size + 1 + 1, 0, none⟩) 1 1, .int .i64 0]) (by simp [results, Try.results23, go_sem]) rfl ?_
  rw [← HW.out]
  refine ⟨_, rfl, ⟨_, _, _, _, _, _, _, _, _, _, _, _, _, _, _, _, _, _, _, _, _, rfl, RowsAt.nil _ _, RowsAt.nil _ _, RowsAt.nil _ _, RowsAt.nil _ _, R1.out, RowsAt.nil _ _, by show 0 ≤ _; exact Nat.zero_le _, by show 0 ≤ _; exact Nat.zero_le _, R2.out⟩, HB.out⟩
set_option maxHeartbeats 3200000 in
set_option maxRecDepth 100000 in
theorem same_eq (m : cd.Msg) (c c' : List Value) (w : World) (h : msgRel w w.heap.size c m) (h' : msgRel w w.heap.size c' m) : Calls Try.prog 18 #[.agg c.toArray, .agg c'.toArray] w (Said true w) := by
  have HQ1 := Lib.hid h
  have HQ2 := Lib.hid h'
  obtain ⟨ae, ne, ce, aa, na, ca, p1, n1, c1, p2, n2, c2, p3, n3, c3, p4, n4, c4, sa, sn, sc, rfl, hh⟩ := h
  obtain ⟨aex, nex, cex, aax, nax, cax, p1x, n1x, c1x, p2x, n2x, c2x, p3x, n3x, c3x, p4x, n4x, c4x, sax, snx, scx, rfl, hh'⟩ := h'
  obtain ⟨W2, hW2⟩ : ∃ W, W = (w.alloc (.cells #[.int .i64 m.k, .int .i64 m.f, .int .i64 m.to, .int .i64 m.g, .int .i64 m.n, .slice ae ne ce, .slice aa na ca, .slice p1 n1 c1, .slice p2 n2 c2, .slice p3 n3 c3, .slice p4 n4 c4, .int .i64 m.ki, .string m.mn, .string m.mv, .slice sa sn sc, .int .i64 m.er] 34)).alloc (.cells #[.int .i64 m.k, .int .i64 m.f, .int .i64 m.to, .int .i64 m.g, .int .i64 m.n, .slice aex nex cex, .slice aax nax cax, .slice p1x n1x c1x, .slice p2x n2x c2x, .slice p3x n3x c3x, .slice p4x n4x c4x, .int .i64 m.ki, .string m.mn, .string m.mv, .slice sax snx scx, .int .i64 m.er] 34) := ⟨_, rfl⟩
  have b1 : Below w.heap.size w (w.alloc (.cells #[.int .i64 m.k, .int .i64 m.f, .int .i64 m.to, .int .i64 m.g, .int .i64 m.n, .slice ae ne ce, .slice aa na ca, .slice p1 n1 c1, .slice p2 n2 c2, .slice p3 n3 c3, .slice p4 n4 c4, .int .i64 m.ki, .string m.mn, .string m.mv, .slice sa sn sc, .int .i64 m.er] 34)) := below1
  have b2 : Below (w.alloc (.cells #[.int .i64 m.k, .int .i64 m.f, .int .i64 m.to, .int .i64 m.g, .int .i64 m.n, .slice ae ne ce, .slice aa na ca, .slice p1 n1 c1, .slice p2 n2 c2, .slice p3 n3 c3, .slice p4 n4 c4, .int .i64 m.ki, .string m.mn, .string m.mv, .slice sa sn sc, .int .i64 m.er] 34)).heap.size (w.alloc (.cells #[.int .i64 m.k, .int .i64 m.f, .int .i64 m.to, .int .i64 m.g, .int .i64 m.n, .slice ae ne ce, .slice aa na ca, .slice p1 n1 c1, .slice p2 n2 c2, .slice p3 n3 c3, .slice p4 n4 c4, .int .i64 m.ki, .string m.mn, .string m.mv, .slice sa sn sc, .int .i64 m.er] 34)) W2 := by rw [hW2]; exact below1
  have E2 := b1.trans (b2.mono b1.size)
  have x2 : W2.heap[w.heap.size + 1]? = some (.cells #[.int .i64 m.k, .int .i64 m.f, .int .i64 m.to, .int .i64 m.g, .int .i64 m.n, .slice aex nex cex, .slice aax nax cax, .slice p1x n1x c1x, .slice p2x n2x c2x, .slice p3x n3x c3x, .slice p4x n4x c4x, .int .i64 m.ki, .string m.mn, .string m.mv, .slice sax snx scx, .int .i64 m.er] 34) := by
    have := heap_alloc_new (w.alloc (.cells #[.int .i64 m.k, .int .i64 m.f, .int .i64 m.to, .int .i64 m.g, .int .i64 m.n, .slice ae ne ce, .slice aa na ca, .slice p1 n1 c1, .slice p2 n2 c2, .slice p3 n3 c3, .slice p4 n4 c4, .int .i64 m.ki, .string m.mn, .string m.mv, .slice sa sn sc, .int .i64 m.er] 34)) (.cells #[.int .i64 m.k, .int .i64 m.f, .int .i64 m.to, .int .i64 m.g, .int .i64 m.n, .slice aex nex cex, .slice aax nax cax, .slice p1x n1x c1x, .slice p2x n2x c2x, .slice p3x n3x c3x, .slice p4x n4x c4x, .int .i64 m.ki, .string m.mn, .string m.mv, .slice sax snx scx, .int .i64 m.er] 34)
    rw [World.size_alloc] at this
    rw [hW2]; exact this
  have HW1 := Lib.hid (write_m m _ W2 (msgRel_steady _ _ _ _ _ _ HQ1.out E2 E2.size))
  have HE2 := Lib.hid E2
  have X2 := Lib.hid x2
  have HQ := Lib.hid (msgRel_steady _ _ _ _ _ _ HQ2.out E2 E2.size)
  clear hh hh' HQ1 HQ2 b1 b2 E2 x2
  go_enter Try.func18, Try.ntmps18
  go_wp2_with fail
  rw [← hW2]
  clear hW2
  (with_reducible refine HW1.out.mono ?_)
  rintro e w3 ⟨⟨b, h3⟩, hb3⟩
  have y2 := (hb3.block _ (lt_of_block X2.out)).trans X2.out
  have HW2 := Lib.hid (write_m m _ w3 (msgRel_steady _ _ _ _ _ _ HQ.out hb3 hb3.size))
  have HE3 := Lib.hid (HE2.out.trans (hb3.mono HE2.out.size))
  have q0 := boxc y2 0 _ rfl
  have q1 := boxc y2 1 _ rfl
  have q2 := boxc y2 2 _ rfl
  have q3 := boxc y2 3 _ rfl
  have q4 := boxc y2 4 _ rfl
  have q5 := boxc y2 5 _ rfl
  have q6 := boxc y2 6 _ rfl
  have q7 := boxc y2 7 _ rfl
  have q8 := boxc y2 8 _ rfl
  have q9 := boxc y2 9 _ rfl
  have q10 := boxc y2 10 _ rfl
  have q11 := boxc y2 11 _ rfl
  have q12 := boxc y2 12 _ rfl
  have q13 := boxc y2 13 _ rfl
  have q14 := boxc y2 14 _ rfl
  have q15 := boxc y2 15 _ rfl
  clear y2 hb3 HQ HW1 X2
  rcases h3 with ⟨ht, rfl⟩ | ⟨ht, rfl⟩
  · have HT := Lib.hid ht
    clear ht
    go_wp2_with fail
    (with_reducible refine HW2.out.mono ?_)
    rintro e w4 ⟨⟨b', h4⟩, hb4⟩
    rcases h4 with ⟨ht, rfl⟩ | ⟨ht, rfl⟩
    · obtain rfl : b = b' := by rw [HT.out] at ht; exact Option.some.inj ht
      go_wp2
      go_ret
      exact ⟨rfl, HE3.out.trans (hb4.mono HE3.out.size)⟩
    · rw [HT.out] at ht; cases ht
  · have HT := Lib.hid ht
    clear ht
    go_wp2_with fail
    (with_reducible refine HW2.out.mono ?_)
    rintro e w4 ⟨⟨b', h4⟩, hb4⟩
    rcases h4 with ⟨ht, rfl⟩ | ⟨ht, rfl⟩
    · rw [HT.out] at ht; cases ht
    · go_wp2
      go_ret
      exact ⟨rfl, HE3.out.trans (hb4.mono HE3.out.size)⟩
end Go.Proofs.Ytpgccfgldjeomaa
