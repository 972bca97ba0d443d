/- Layer 10: pad: what the program's calls tell: pad_any, size_any (XPada, XPadb), split_any (XPadc). -/
import Derived.Test.YtpmnikcohadlmaaPadb
import Derived.Test.YtpmnikcohadlmaaPadc
namespace Go.Proofs.Ytpmnikcohadlmaa
end Go.Proofs.Ytpmnikcohadlmaa
